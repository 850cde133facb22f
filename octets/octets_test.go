package octets

import (
	"math"
	"slices"
	"strings"
	"testing"
	"unsafe"

	"mootbell/api"
)

var (
	words   = []uint64{0, 1, 0x7f, 0x80, 0xff, 0x100, 0xffff, 0x12345678, 0x0102030405060708, 0xf1f2f3f4f5f6f7f8, 1 << 63, math.MaxUint64}
	noSizes = []int{math.MinInt, -8, -1, 0, 9, 10, 16, 64, 1 << 32, math.MaxInt}
)

func long(n int) string { return strings.Repeat("v", n) }

// A1.

func TestPutLaysTheLowestByteFirst(t *testing.T) {
	for _, c := range []struct {
		w    uint64
		n    int
		want string
	}{
		{0, 1, "\x00"},
		{0, 8, "\x00\x00\x00\x00\x00\x00\x00\x00"},
		{0x41, 1, "A"},
		{0x4241, 1, "A"},
		{0x4241, 2, "AB"},
		{0x4241, 3, "AB\x00"},
		{65536, 4, "\x00\x00\x01\x00"},
		{0xf1f2f3f4f5f6f7f8, 5, "\xf8\xf7\xf6\xf5\xf4"},
		{0xf1f2f3f4f5f6f7f8, 7, "\xf8\xf7\xf6\xf5\xf4\xf3\xf2"},
		{0xf1f2f3f4f5f6f7f8, 8, "\xf8\xf7\xf6\xf5\xf4\xf3\xf2\xf1"},
		{math.MaxUint64, 8, "\xff\xff\xff\xff\xff\xff\xff\xff"},
	} {
		if got := Put(c.w, c.n); got != c.want {
			t.Errorf("Put(%#x, %d) = %q, want %q", c.w, c.n, got, c.want)
		}
	}
}

func TestPutOfNoSizeIsEmpty(t *testing.T) {
	for _, n := range noSizes {
		if got := Put(math.MaxUint64, n); got != "" {
			t.Errorf("Put(.., %d) = %q", n, got)
		}
	}
}

func TestTakeReadsTheLowestByteFirst(t *testing.T) {
	for _, c := range []struct {
		s    string
		n    int
		w    uint64
		rest string
	}{
		{"A", 1, 0x41, ""},
		{"AB", 1, 0x41, "B"},
		{"AB", 2, 0x4241, ""},
		{"\x00\x00\x01\x00\x00", 4, 65536, "\x00"},
		{"\xf8\xf7\xf6\xf5\xf4rest", 5, 0xf4f5f6f7f8, "rest"},
		{"\xf8\xf7\xf6\xf5\xf4\xf3\xf2\xf1", 8, 0xf1f2f3f4f5f6f7f8, ""},
		{"\xff\xff\xff\xff\xff\xff\xff\xff\xff", 8, math.MaxUint64, "\xff"},
		{"A" + long(70000), 1, 0x41, long(70000)},
	} {
		w, rest, e := Take(c.s, c.n)
		if w != c.w || rest != c.rest || e != api.OK {
			t.Errorf("Take(%.12q, %d) = %#x, %.12q, %d", c.s, c.n, w, rest, e)
		}
	}
}

func TestTakeRefuses(t *testing.T) {
	expect := func(s string, n int, want api.Errno) {
		t.Helper()
		if w, rest, e := Take(s, n); w != 0 || rest != "" || e != want {
			t.Errorf("Take(%q, %d) = %d, %q, %d, want error %d", s, n, w, rest, e, want)
		}
	}
	for _, n := range noSizes {
		expect("0123456789", n, api.ErrArg)
		expect("", n, api.ErrArg) // named ahead of ErrShort
	}
	for n := 1; n <= 8; n++ {
		expect("", n, api.ErrShort)
		expect("0123456789"[:n-1], n, api.ErrShort)
	}
}

// A2.

func TestJoin(t *testing.T) {
	for _, c := range []struct {
		fixed string
		parts []string
		want  string
	}{
		{"", nil, ""},
		{"abc", nil, "abc"},
		{"a", []string{"bc", ""}, "a\x09\x00\x00\x00\x0b\x00\x00\x00bc"},
		{"", []string{"bc"}, "\x04\x00\x00\x00bc"},
		{"", []string{"", ""}, "\x08\x00\x00\x00\x08\x00\x00\x00"},
		{"", []string{"x", "yz"}, "\x08\x00\x00\x00\x09\x00\x00\x00xyz"},
		{"", []string{long(300), "z"}, "\x08\x00\x00\x00\x34\x01\x00\x00" + long(300) + "z"},
		{long(65528), []string{""}, long(65528) + "\xfc\xff\x00\x00"},
		{"", []string{long(65528), ""}, "\x08\x00\x00\x00\x00\x00\x01\x00" + long(65528)},
	} {
		got, e := Join(c.fixed, c.parts...)
		if got != c.want || e != api.OK {
			t.Errorf("Join(%.12q, %d parts) = %.24q, %d", c.fixed, len(c.parts), got, e)
		}
	}
}

func TestJoinHasAtMostEightParts(t *testing.T) {
	for n := range 20 {
		parts := slices.Repeat([]string{"p"}, n)
		got, e := Join("f", parts...)
		if n <= 8 && (e != api.OK || len(got) != 1+5*n) {
			t.Errorf("%d parts: %d bytes, error %d", n, len(got), e)
		}
		if n > 8 && (e != api.ErrLong || got != "") {
			t.Errorf("%d parts: %q, error %d", n, got, e)
		}
	}
}

// The whole may have 65536 bytes, wherever they stand.
func TestJoinHasAtMostSoManyBytes(t *testing.T) {
	for n := range 9 {
		room := 65536 - 4*n
		for at := -1; at < n; at++ {
			for over := range 3 {
				fixed, parts := "", make([]string, n)
				if at < 0 {
					fixed = long(room + over)
				} else {
					parts[at] = long(room + over)
				}
				got, e := Join(fixed, parts...)
				if over == 0 && (e != api.OK || len(got) != 65536) || over > 0 && (e != api.ErrLong || got != "") {
					t.Errorf("%d parts, %d over at %d: %d bytes, error %d", n, over, at, len(got), e)
				}
			}
		}
	}
	for _, more := range []string{"", "v"} {
		got, e := Join(long(20000), long(20000), long(20000), long(5524)+more)
		if more == "" && (e != api.OK || len(got) != 65536) || more != "" && (e != api.ErrLong || got != "") {
			t.Errorf("with %q more: %d bytes, error %d", more, len(got), e)
		}
	}
}

// A3.

func TestSplit(t *testing.T) {
	for _, c := range []struct {
		s     string
		fixed int
		parts []string
	}{
		{"", 0, nil},
		{"abc", 3, nil},
		{long(65536), 65536, nil},
		{"a\x09\x00\x00\x00\x0b\x00\x00\x00bc", 1, []string{"bc", ""}},
		{"\x04\x00\x00\x00", 0, []string{""}},
		{"\x08\x00\x00\x00\x08\x00\x00\x00bc", 0, []string{"", "bc"}},
		{"\x08\x00\x00\x00\x00\x00\x01\x00" + long(65528), 0, []string{long(65528), ""}},
		{long(65532) + "\x00\x00\x01\x00", 65532, []string{""}},
	} {
		head, parts, e := Split(c.s, c.fixed, len(c.parts))
		if head != c.s[:c.fixed] || !slices.Equal(parts, c.parts) || e != api.OK {
			t.Errorf("Split(%.24q, %d, %d) = %.12q, %.12q, %d", c.s, c.fixed, len(c.parts), head, parts, e)
		}
	}
}

func expectRefusal(t *testing.T, s string, fixed, many int, want api.Errno) {
	t.Helper()
	head, parts, e := Split(s, fixed, many)
	if head != "" || len(parts) != 0 || e != want {
		t.Errorf("Split(%.24q, %d, %d) = %.12q, %.12q, %d, want error %d", s, fixed, many, head, parts, e, want)
	}
}

func TestSplitRefusesArguments(t *testing.T) {
	for _, s := range []string{"", "abc", long(65537)} {
		for _, fixed := range []int{math.MinInt, -1, 65537, 65540, math.MaxInt} {
			expectRefusal(t, s, fixed, 0, api.ErrArg)
			expectRefusal(t, s, fixed, 8, api.ErrArg)
		}
		for _, many := range []int{math.MinInt, -1, 9, 1 << 62, math.MaxInt} {
			expectRefusal(t, s, 0, many, api.ErrArg)
			expectRefusal(t, s, 65536, many, api.ErrArg)
		}
	}
}

func TestSplitRefusesLongTexts(t *testing.T) {
	whole := "\x04\x00\x00\x00" + long(65532)
	if _, _, e := Split(whole, 0, 1); e != api.OK {
		t.Errorf("65536 bytes: error %d", e)
	}
	expectRefusal(t, whole+"v", 0, 1, api.ErrLong)
	expectRefusal(t, whole+"v", 65536, 0, api.ErrLong)
	expectRefusal(t, whole+"v", 65536, 8, api.ErrLong) // named ahead of ErrShort
}

func TestSplitRefusesShortTexts(t *testing.T) {
	for fixed := range 4 {
		for many := range 9 {
			need := fixed + 4*many
			for n := range need {
				expectRefusal(t, long(n), fixed, many, api.ErrShort)
			}
			if _, _, e := Split(long(need), fixed, many); e == api.ErrShort {
				t.Errorf("%d bytes are enough for %d and %d parts", need, fixed, many)
			}
		}
	}
	expectRefusal(t, long(65535), 65536, 0, api.ErrShort)
	expectRefusal(t, long(65536), 65536, 1, api.ErrShort)
	expectRefusal(t, long(65536), 65533, 1, api.ErrShort)
}

func TestSplitRefusesOtherTexts(t *testing.T) {
	expectRefusal(t, "v", 0, 0, api.ErrForm)
	expectRefusal(t, "abcd", 3, 0, api.ErrForm)
	expectRefusal(t, long(65536), 0, 0, api.ErrForm)
	expectRefusal(t, "\x04\x00\x00\x80v", 0, 1, api.ErrForm)
	expectRefusal(t, "\xff\xff\xff\xffv", 0, 1, api.ErrForm)
	// One place is right, another one far beyond the end, and back again.
	expectRefusal(t, "\x0c\x00\x00\x00\xff\x00\x00\x00\x0d\x00\x00\x00vw", 0, 3, api.ErrForm)
	expectRefusal(t, "\x0c\x00\x00\x00\x0d\x00\x00\x00\xff\x00\x00\x00vw", 0, 3, api.ErrForm)
}

// Of all places that two parts may name just those that Join would write are taken.
func TestSplitTakesJustWhatJoinMakes(t *testing.T) {
	const body = "vwx"
	made := map[string]bool{}
	for i := range len(body) + 1 {
		whole, _ := Join("f", body[:i], body[i:])
		made[whole] = true
	}
	for first := range uint64(20) {
		for second := range uint64(20) {
			s := "f" + Put(first, 4) + Put(second, 4) + body
			head, parts, e := Split(s, 1, 2)
			if made[s] {
				if head != "f" || len(parts) != 2 || strings.Join(parts, "") != body || e != api.OK {
					t.Errorf("places %d, %d: %q, %q, %d", first, second, head, parts, e)
				}
				continue
			}
			if head != "" || len(parts) != 0 || e != api.ErrForm {
				t.Errorf("places %d, %d: %q, %q, %d", first, second, head, parts, e)
			}
		}
	}
}

// A4.

func TestTakeUndoesPut(t *testing.T) {
	for _, w := range words {
		for n := 1; n <= 8; n++ {
			for _, behind := range []string{"", "v", "\x00\xff"} {
				s := Put(w, n)
				got, rest, e := Take(s+behind, n)
				if len(s) != n || got != w&(math.MaxUint64>>(64-8*n)) || rest != behind || e != api.OK {
					t.Errorf("%#x by %d: %q, %#x, %q, %d", w, n, s, got, rest, e)
				}
				if again := Put(got, n) + rest; again != s+behind {
					t.Errorf("%#x by %d: %q again", w, n, again)
				}
			}
		}
	}
}

func TestSplitUndoesJoin(t *testing.T) {
	texts := []string{"", "\x00", "vw", long(257), long(7000)}
	for many := range 9 {
		for turn := range len(texts) {
			fixed := texts[(turn*2+many)%len(texts)]
			parts := make([]string, many)
			for i := range parts {
				parts[i] = texts[(turn+i*(turn+1))%len(texts)]
			}
			whole, e := Join(fixed, parts...)
			if e != api.OK {
				t.Fatalf("%d parts, turn %d: error %d", many, turn, e)
			}
			head, back, e := Split(whole, len(fixed), many)
			if head != fixed || !slices.Equal(back, parts) || e != api.OK {
				t.Errorf("%d parts, turn %d: other parts, error %d", many, turn, e)
			}
		}
	}
}

// Whatever byte of a whole is changed: what is still split is joined to the same bytes.
func TestJoinUndoesSplit(t *testing.T) {
	whole, _ := Join("fix", "one", "", "three", "4")
	taken := 0
	for at := range len(whole) {
		for b := range 256 {
			s := whole[:at] + string([]byte{byte(b)}) + whole[at+1:]
			head, parts, e := Split(s, 3, 4)
			if e == api.ErrForm {
				continue
			}
			taken++
			if again, f := Join(head, parts...); e != api.OK || again != s || f != api.OK {
				t.Errorf("byte %d at %d: error %d, %q again, error %d", b, at, e, again, f)
			}
		}
	}
	if taken < 256*12 {
		t.Errorf("only %d were taken, though any bytes may stand in the texts", taken)
	}
}

// R3.

func TestPartsAreNotWrittenInto(t *testing.T) {
	room := []string{"a", "b", "behind"}
	if _, e := Join("f", room[:2]...); e != api.OK {
		t.Fatal(e)
	}
	if !slices.Equal(room, []string{"a", "b", "behind"}) {
		t.Errorf("parts are %q", room)
	}
}

func TestAnswersShareNothing(t *testing.T) {
	within := func(piece, s string) bool {
		from, at := uintptr(unsafe.Pointer(unsafe.StringData(s))), uintptr(unsafe.Pointer(unsafe.StringData(piece)))
		return piece != "" && from <= at && at < from+uintptr(len(s))
	}
	whole, _ := Join("fixed", "one", "two")
	head, parts, _ := Split(whole, 5, 2)
	_, rest, _ := Take(whole, 4)
	alone, _ := Join(whole)
	for i, piece := range append([]string{head, rest, alone}, parts...) {
		if within(piece, whole) {
			t.Errorf("answer %d lies within the argument", i)
		}
	}
	_, other, _ := Split(whole, 5, 2)
	parts[0] = "written"
	parts = append(parts[:1], "grown", "grown")
	if !slices.Equal(other, []string{"one", "two"}) {
		t.Errorf("another answer became %q", other)
	}
}
