package churn

import (
	"hash/fnv"
	"math"
	"math/big"
	"slices"
	"strings"
	"testing"
)

var (
	starts = []uint64{0, 1, 2, 0xff, 0x100, 12345, 1099511628211, 14695981039346656037, 1<<63 - 1, 1 << 63, math.MaxUint64 - 1, math.MaxUint64}
	texts  = []string{
		"", "a", "b", "ab", "ba", "abc", "foobar", "\x00", "\x00\x00", "\xff", "\x00\xff", "\xff\x00", "\x80\x7f",
		"\xc3\xa4", "ä €", "\xff\xfe\xfd", strings.Repeat("\x00", 300), strings.Repeat("vote", 5000),
	}
	wordLists = [][]uint64{
		nil, {0}, {1}, {0, 0}, {0, 1}, {1, 0}, {1, 2, 3}, {0x0807060504030201}, {1 << 56}, {1 << 63},
		{math.MaxUint64}, {math.MaxUint64, 0}, {0, math.MaxUint64}, {5, 5, 5, 5, 5, 5, 5, 5, 5},
	}
)

// moreByWholeNumbers follows D1's words with numbers that do not wrap round.
func moreByWholeNumbers(h uint64, s string) uint64 {
	n := new(big.Int).SetUint64(h)
	for _, b := range []byte(s) {
		n.Xor(n, big.NewInt(int64(b)))
		n.Mul(n, big.NewInt(1099511628211))
		n.Mod(n, new(big.Int).Lsh(big.NewInt(1), 64))
	}
	return n.Uint64()
}

func libraryFNV(s string) uint64 {
	h := fnv.New64a()
	h.Write([]byte(s))
	return h.Sum64()
}

func bytesOf(words []uint64) string {
	var b []byte
	for _, w := range words {
		b = append(b, byte(w), byte(w>>8), byte(w>>16), byte(w>>24), byte(w>>32), byte(w>>40), byte(w>>48), byte(w>>56))
	}
	return string(b)
}

// D1.

func TestMorePutsInEachByteAndMultiplies(t *testing.T) {
	for _, c := range []struct {
		h    uint64
		s    string
		want uint64
	}{
		{0, "", 0},
		{5, "", 5},
		{math.MaxUint64, "", math.MaxUint64},
		{0, "\x00", 0},
		{0, "\x01", 1099511628211},
		{1, "\x00", 1099511628211},
		{1, "\x01", 0},
		{3, "\x01", 2 * 1099511628211},
		{0x61, "a", 0},
		{0, "\xff", 255 * 1099511628211},
		{0xff, "\xff", 0},
		{math.MaxUint64, "\x00", math.MaxUint64 - 1099511628210},
		{1 << 63, "\x00", 1 << 63},
	} {
		if got := More(c.h, c.s); got != c.want {
			t.Errorf("More(%d, %q) = %d, want %d", c.h, c.s, got, c.want)
		}
	}
}

func TestMoreIsWhatWholeNumbersMakeModulo(t *testing.T) {
	for _, h := range starts {
		for _, s := range texts {
			if got, want := More(h, s), moreByWholeNumbers(h, s); got != want {
				t.Errorf("More(%d, %.20q) = %d, want %d", h, s, got, want)
			}
		}
	}
}

func TestMoreTakesBytesNotRunes(t *testing.T) {
	if More(7, "ä") != More(More(7, "\xc3"), "\xa4") || More(7, "\xff") == More(7, "\uFFFD") {
		t.Error("a rune was taken for a byte")
	}
}

func TestBackIsTheNumberOfWhichMoreIs(t *testing.T) {
	for _, c := range []struct {
		h    uint64
		s    string
		want uint64
	}{
		{5, "", 5},
		{0, "\x00", 0},
		{0, "a", 0x61},
		{1099511628211, "\x00", 1},
		{1099511628211, "\x01", 0},
		{255 * 1099511628211, "\xff", 0},
		{0xaf63dc4c8601ec8c, "a", 14695981039346656037},
		{0x85944171f73967e8, "foobar", 14695981039346656037},
	} {
		if got := Back(c.h, c.s); got != c.want {
			t.Errorf("Back(%#x, %q) = %d, want %d", c.h, c.s, got, c.want)
		}
	}
}

func TestBackTakesOffTheLastByteFirst(t *testing.T) {
	h := moreByWholeNumbers(99, "ab")
	if Back(h, "ab") != 99 || Back(h, "ba") == 99 || Back(h, "b") != moreByWholeNumbers(99, "a") {
		t.Error("the order of bytes")
	}
}

// D2.

func TestSumOfKnownTexts(t *testing.T) {
	for _, c := range []struct {
		s    string
		want uint64
	}{
		{"", 14695981039346656037},
		{"a", 0xaf63dc4c8601ec8c},
		{"b", 0xaf63df4c8601f1a5},
		{"foobar", 0x85944171f73967e8},
	} {
		if got := Sum(c.s); got != c.want {
			t.Errorf("Sum(%q) = %#x, want %#x", c.s, got, c.want)
		}
	}
}

func TestSumIsTheLibrarysFNV(t *testing.T) {
	for _, s := range texts {
		if got, want := Sum(s), libraryFNV(s); got != want {
			t.Errorf("Sum(%.20q) = %#x, want %#x", s, got, want)
		}
	}
	for b := range 256 {
		s := string([]byte{byte(b), 1, byte(b)})
		if Sum(s) != libraryFNV(s) {
			t.Errorf("Sum(%q)", s)
		}
	}
}

func TestFoldIsTheSumOfTheWordsBytes(t *testing.T) {
	if Fold() != 14695981039346656037 {
		t.Error("of no words")
	}
	if Fold(0x0807060504030201) != libraryFNV("\x01\x02\x03\x04\x05\x06\x07\x08") {
		t.Error("the lowest byte is not the first")
	}
	if Fold(1, 2) != libraryFNV("\x01\x00\x00\x00\x00\x00\x00\x00\x02\x00\x00\x00\x00\x00\x00\x00") {
		t.Error("of two words")
	}
	for _, ws := range wordLists {
		if got, want := Fold(ws...), libraryFNV(bytesOf(ws)); got != want {
			t.Errorf("Fold(%v) = %#x, want %#x", ws, got, want)
		}
	}
}

func TestFoldOfVeryManyWords(t *testing.T) {
	ws := make([]uint64, 100000)
	for i := range ws {
		ws[i] = uint64(i) << 40
	}
	if Fold(ws...) != libraryFNV(bytesOf(ws)) {
		t.Error("of many words")
	}
}

// D3.

func TestDrawIsWhatIsLeft(t *testing.T) {
	for _, ws := range wordLists {
		sum := libraryFNV(bytesOf(ws))
		for _, n := range []int{1, 2, 3, 7, 255, 256, 1000, 1 << 40, 1<<62 + 1, math.MaxInt - 1, math.MaxInt} {
			if got, want := Draw(n, ws...), int(sum%uint64(n)); got != want {
				t.Errorf("Draw(%d, %v) = %d, want %d", n, ws, got, want)
			}
		}
	}
}

func TestDrawOfASumAboveTheIntsIsNotBelowNought(t *testing.T) {
	// The basis is above 2^63, and so below 0 as an int.
	if got := Draw(10); got != 7 {
		t.Errorf("Draw(10) = %d", got)
	}
	if got := Draw(math.MaxInt); got != 14695981039346656037-math.MaxInt {
		t.Errorf("Draw(MaxInt) = %d", got)
	}
}

func TestDrawOfNothingIsNought(t *testing.T) {
	for _, ws := range wordLists {
		for _, n := range []int{0, -1, -2, -1000, math.MinInt + 1, math.MinInt} {
			if got := Draw(n, ws...); got != 0 {
				t.Errorf("Draw(%d, %v) = %d", n, ws, got)
			}
		}
	}
}

func TestDrawReachesAllBelowN(t *testing.T) {
	for n := 1; n <= 40; n++ {
		drawn := map[int]bool{}
		for i := range uint64(2000) {
			drawn[Draw(n, i, uint64(n))] = true
		}
		for i := range n {
			if !drawn[i] {
				t.Errorf("Draw(%d, ..) is never %d", n, i)
			}
		}
		if len(drawn) != n {
			t.Errorf("Draw(%d, ..) is one of %d numbers", n, len(drawn))
		}
	}
}

func TestBitIsTheOneOfValue2To40(t *testing.T) {
	for _, ws := range wordLists {
		if got, want := Bit(ws...), libraryFNV(bytesOf(ws))&(1<<40) != 0; got != want {
			t.Errorf("Bit(%v) = %v", ws, got)
		}
	}
	set := 0
	for i := range uint64(1000) {
		want := libraryFNV(bytesOf([]uint64{i, 7}))&(1<<40) != 0
		if Bit(i, 7) != want {
			t.Errorf("Bit(%d, 7) is not %v", i, want)
		}
		if want {
			set++
		}
	}
	if set == 0 || set == 1000 {
		t.Errorf("set %d times of 1000: nothing is tried", set)
	}
}

// D4.

func TestBackUndoesMoreAndMoreBack(t *testing.T) {
	for _, h := range starts {
		for _, s := range texts {
			if got := Back(More(h, s), s); got != h {
				t.Errorf("Back(More(%d, %.20q)) = %d", h, s, got)
			}
			if got := More(Back(h, s), s); got != h {
				t.Errorf("More(Back(%d, %.20q)) = %d", h, s, got)
			}
		}
	}
	for b := range 256 {
		s := string([]byte{byte(b)})
		for _, h := range starts {
			if Back(More(h, s), s) != h || More(Back(h, s), s) != h {
				t.Errorf("%d, %q", h, s)
			}
		}
	}
}

func TestTwoPartsAreSummedAsOne(t *testing.T) {
	for _, h := range starts {
		for _, a := range texts {
			for _, b := range texts[:len(texts)-1] {
				if More(More(h, a), b) != More(h, a+b) || Back(Back(h, b), a) != Back(h, a+b) {
					t.Errorf("%d, %.20q, %.20q", h, a, b)
				}
			}
		}
	}
	for cut := range len("foobar") + 1 {
		if More(Sum("foobar"[:cut]), "foobar"[cut:]) != Sum("foobar") {
			t.Errorf("cut at %d", cut)
		}
	}
}

func TestUnlikeNumbersStayUnlike(t *testing.T) {
	for _, s := range texts {
		more, back := map[uint64]bool{}, map[uint64]bool{}
		for _, h := range starts {
			more[More(h, s)] = true
			back[Back(h, s)] = true
		}
		if len(more) != len(starts) || len(back) != len(starts) {
			t.Errorf("%.20q: two of unlike numbers are alike", s)
		}
	}
}

func TestUnlikeBytesMakeUnlikeSums(t *testing.T) {
	for _, h := range starts {
		for _, behind := range []string{"", "\x00", "vote"} {
			sums := map[uint64]bool{}
			for b := range 256 {
				sums[More(h, string([]byte{byte(b)})+behind)] = true
			}
			if len(sums) != 256 {
				t.Errorf("%d, behind it %q: %d sums of 256 bytes", h, behind, len(sums))
			}
		}
	}
}

// R3.

func TestWordsAreLeftAsTheyWere(t *testing.T) {
	room := []uint64{1, 2, 3, 4, 5}
	was := slices.Clone(room)
	ws := room[:3]
	Fold(ws...)
	Draw(7, ws...)
	Bit(ws...)
	if !slices.Equal(room, was) {
		t.Errorf("%v became %v", was, room)
	}
}

// R4.

func TestTheSameIsAnsweredForTheSame(t *testing.T) {
	for _, ws := range wordLists {
		fold, draw, bit := Fold(ws...), Draw(1000, ws...), Bit(ws...)
		Sum("something between")
		if Fold(ws...) != fold || Draw(1000, ws...) != draw || Bit(ws...) != bit {
			t.Errorf("%v: another answer", ws)
		}
	}
}
