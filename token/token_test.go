package token

import (
	"encoding/binary"
	"math"
	"math/rand"
	"slices"
	"strings"
	"testing"

	"mootbell/api"
)

const top = math.MaxUint64

// of is the token of pairs, told as key, root, key, root ..
func of(words ...uint64) api.Token {
	var t api.Token
	for i := 0; i+1 < len(words); i += 2 {
		t.Pairs = append(t.Pairs, api.Pair{Key: words[i], Root: words[i+1]})
	}
	return t
}

func forge(t api.Token) api.Token {
	t.Forged = true
	return t
}

func same(a, b api.Token) bool { return a.Forged == b.Forged && slices.Equal(a.Pairs, b.Pairs) }

func empty(t api.Token) bool { return same(t, api.Token{}) }

// alike is the token of one pair, so many times.
func alike(many int, key, root uint64) api.Token {
	return api.Token{Pairs: slices.Repeat([]api.Pair{{Key: key, Root: root}}, many)}
}

// upTo is the token of keys 0 to many - 1, of one root.
func upTo(many int, root uint64) api.Token {
	var t api.Token
	for i := range many {
		t.Pairs = append(t.Pairs, api.Pair{Key: uint64(i), Root: root})
	}
	return t
}

// shuffledEnd is a token whose last two pairs alone are not in their order.
func shuffledEnd(many int) api.Token {
	t := upTo(many, 7)
	t.Pairs[many-2], t.Pairs[many-1] = t.Pairs[many-1], t.Pairs[many-2]
	return t
}

func right() []api.Token {
	return []api.Token{
		{}, {Pairs: []api.Pair{}}, {Forged: true},
		of(0, 0), of(top, top), of(0, top), of(top, 0), of(1, 7), forge(of(1, 7)),
		of(1, 7, 1, 7), of(1, 7, 1, 7, 1, 7), of(1, 7, 1, 8), of(1, 8, 2, 7), of(1, top, 2, 0),
		of(1, 5, 1, 9, 4, 0), of(0, 0, 1<<63-1, 0, 1<<63, 0, top, 0), of(3, 1<<63-1, 3, 1<<63, 3, top),
		of(1<<32, 0, 1<<32+1, 0), of(1, 2, 1, 2, 1, 3, 2, 1, 2, 1),
		upTo(2047, 7), upTo(2048, 7), alike(2048, 3, 4), forge(alike(2048, top, top)),
	}
}

func unordered() []api.Token {
	return []api.Token{
		of(2, 7, 1, 7), of(1, 8, 1, 7), of(2, 1, 1, 2), of(1, 1, 0, 0), of(1, 0, 0, top), forge(of(2, 7, 1, 7)),
		of(1<<63, 0, 1<<63-1, 0), of(top, 0, 0, 0), of(3, 1<<63, 3, 1<<63-1), of(3, top, 3, 0), of(1<<32, 0, 1, 0),
		of(1, 7, 2, 7, 1, 7), of(1, 7, 3, 7, 2, 7), of(1, 7, 1, 7, 1, 6),
		shuffledEnd(2048), forge(shuffledEnd(2048)), shuffledEnd(2049), shuffledEnd(5000),
	}
}

// tooMany is tokens whose pairs are in their order, but more than may be.
func tooMany() []api.Token {
	return []api.Token{
		upTo(2049, 7), forge(upTo(2049, 7)), alike(2049, 0, 0), forge(alike(2049, 3, 4)), alike(5000, 1, 1),
	}
}

func wrong() []api.Token { return append(unordered(), tooMany()...) }

// bytesOf follows E2's words for any token, right or not.
func bytesOf(t api.Token) string {
	b := []byte{0}
	if t.Forged {
		b[0] = 1
	}
	for _, p := range t.Pairs {
		b = binary.LittleEndian.AppendUint64(b, p.Key)
		b = binary.LittleEndian.AppendUint64(b, p.Root)
	}
	return string(b)
}

// mergeByInserting lays each pair ahead of the first one that it is ahead of.
func mergeByInserting(l ...api.Token) api.Token {
	var all api.Token
	for _, t := range l {
		all.Forged = all.Forged || t.Forged
		for _, p := range t.Pairs {
			at := slices.IndexFunc(all.Pairs, func(q api.Pair) bool {
				return p.Key < q.Key || p.Key == q.Key && p.Root < q.Root
			})
			if at < 0 {
				at = len(all.Pairs)
			}
			all.Pairs = slices.Insert(all.Pairs, at, p)
		}
	}
	return all
}

// some is tokens of few keys and roots, so that many of their pairs are alike.
func some(r *rand.Rand, many int) []api.Token {
	l := make([]api.Token, many)
	for i := range l {
		for range r.Intn(6) {
			l[i] = mergeByInserting(l[i], of(uint64(r.Intn(4)), uint64(r.Intn(3))))
		}
		l[i].Forged = r.Intn(4) == 0
	}
	return l
}

// E1.

func TestRightTellsWhichTokensMayBe(t *testing.T) {
	for i, x := range right() {
		if !Right(x) {
			t.Errorf("%d: not right", i)
		}
	}
	for i, x := range wrong() {
		if Right(x) {
			t.Errorf("%d: right", i)
		}
	}
}

func TestOneIsTheTokenOfOnePair(t *testing.T) {
	for _, key := range []uint64{0, 1, 2, 1 << 32, 1 << 63, top} {
		for _, root := range []uint64{0, 1, 7, 1 << 63, top} {
			x := One(key, root)
			if x.Forged || !slices.Equal(x.Pairs, []api.Pair{{Key: key, Root: root}}) || !Right(x) {
				t.Errorf("One(%d, %d) = %v", key, root, x)
			}
		}
	}
}

func TestMergeHasAllPairsInTheirOrder(t *testing.T) {
	for i, c := range []struct {
		l    []api.Token
		want api.Token
	}{
		{nil, api.Token{}},
		{[]api.Token{{}}, api.Token{}},
		{[]api.Token{{}, {Pairs: []api.Pair{}}}, api.Token{}},
		{[]api.Token{One(2, 7), One(1, 9)}, of(1, 9, 2, 7)},
		{[]api.Token{One(1, 9), One(2, 7)}, of(1, 9, 2, 7)},
		{[]api.Token{One(1, 9), One(1, 7)}, of(1, 7, 1, 9)},
		{[]api.Token{One(1, 7), One(1, 7)}, of(1, 7, 1, 7)},
		{[]api.Token{of(1, 7, 1, 7), {}, One(1, 7)}, of(1, 7, 1, 7, 1, 7)},
		{[]api.Token{of(1, 5, 4, 0), of(0, 9, 1, 5, 9, 9), One(1, 7)}, of(0, 9, 1, 5, 1, 5, 1, 7, 4, 0, 9, 9)},
		{[]api.Token{One(1<<63, 0), One(1, 0), One(top, 0)}, of(1, 0, 1<<63, 0, top, 0)},
		{[]api.Token{One(3, 1<<63), One(3, 1), One(3, top)}, of(3, 1, 3, 1<<63, 3, top)},
	} {
		if got, e := Merge(c.l...); !same(got, c.want) || e != api.OK {
			t.Errorf("%d: %v, %d, want %v", i, got, e, c.want)
		}
	}
}

func TestMergeOfOneIsTheSame(t *testing.T) {
	for i, x := range right() {
		if got, e := Merge(x); !same(got, x) || e != api.OK {
			t.Errorf("%d: error %d", i, e)
		}
	}
}

func TestMergeIsForgedIfOneIs(t *testing.T) {
	for w := range 1 << 4 {
		var l []api.Token
		for i := range 4 {
			x := One(uint64(i), 7)
			if i == 2 {
				x = api.Token{}
			}
			x.Forged = w>>i&1 == 1
			l = append(l, x)
		}
		if got, e := Merge(l...); got.Forged != (w != 0) || len(got.Pairs) != 3 || e != api.OK {
			t.Errorf("%04b: %v, %d", w, got, e)
		}
	}
}

func TestMergeIsWhatInsertingMakes(t *testing.T) {
	r := rand.New(rand.NewSource(5))
	for range 500 {
		l := some(r, r.Intn(6))
		got, e := Merge(l...)
		if want := mergeByInserting(l...); !same(got, want) || e != api.OK || !Right(got) {
			t.Fatalf("Merge(%v) = %v, %d", l, got, e)
		}
	}
}

func TestMergeRefusesWhatIsNotRight(t *testing.T) {
	for i, x := range wrong() {
		for j, l := range [][]api.Token{
			{x}, {x, One(1, 1)}, {One(1, 1), x}, {One(1, 1), x, forge(One(2, 2))}, {{}, {}, x},
			{upTo(2048, 1), One(1, 1), x}, {x, upTo(2048, 1), upTo(2048, 1)}, {x, x},
		} {
			if got, e := Merge(l...); !empty(got) || e != api.ErrArg {
				t.Errorf("%d, %d: error %d", i, j, e)
			}
		}
	}
}

func TestMergeHasRoomFor2048Pairs(t *testing.T) {
	for i, c := range []struct {
		l    []api.Token
		want int
	}{
		{[]api.Token{upTo(2048, 7), {}}, 2048},
		{[]api.Token{upTo(2047, 7), One(0, 0)}, 2048},
		{[]api.Token{upTo(1024, 7), forge(upTo(1024, 7))}, 2048},
		{slices.Repeat([]api.Token{One(4, 4)}, 2048), 2048},
		{slices.Repeat([]api.Token{{}}, 5000), 0},
	} {
		got, e := Merge(c.l...)
		if len(got.Pairs) != c.want || e != api.OK || !same(got, mergeByInserting(c.l...)) {
			t.Errorf("%d: %d Pairs, error %d", i, len(got.Pairs), e)
		}
	}
	for i, l := range [][]api.Token{
		{upTo(2048, 7), One(0, 0)}, {One(0, 0), upTo(2048, 7)}, {forge(upTo(2048, 7)), {}, One(0, 7)},
		{upTo(1024, 7), upTo(1025, 7)}, {upTo(2048, 7), upTo(2048, 7)},
		slices.Repeat([]api.Token{One(4, 4)}, 2049), slices.Repeat([]api.Token{upTo(2048, 1)}, 64),
	} {
		if got, e := Merge(l...); !empty(got) || e != api.ErrLong {
			t.Errorf("%d: %d Pairs, error %d", i, len(got.Pairs), e)
		}
	}
}

// E2.

func TestEncodeIsAByteAndThePairs(t *testing.T) {
	for _, c := range []struct {
		t    api.Token
		want string
	}{
		{api.Token{}, "\x00"},
		{api.Token{Pairs: []api.Pair{}}, "\x00"},
		{api.Token{Forged: true}, "\x01"},
		{forge(of(1, 0x0203)), "\x01\x01\x00\x00\x00\x00\x00\x00\x00\x03\x02\x00\x00\x00\x00\x00\x00"},
		{of(0x0807060504030201, 0xf8f7f6f5f4f3f2f1), "\x00\x01\x02\x03\x04\x05\x06\x07\x08\xf1\xf2\xf3\xf4\xf5\xf6\xf7\xf8"},
		{of(0, 1, top, 0), "\x00" + strings.Repeat("\x00", 8) + "\x01" + strings.Repeat("\x00", 7) + strings.Repeat("\xff", 8) + strings.Repeat("\x00", 8)},
	} {
		if got, e := Encode(c.t); got != c.want || e != api.OK {
			t.Errorf("Encode(%v) = %q, %d, want %q", c.t, got, e, c.want)
		}
	}
	for i, x := range right() {
		if got, e := Encode(x); got != bytesOf(x) || len(got) != 1+16*len(x.Pairs) || e != api.OK {
			t.Errorf("%d: %d bytes, error %d", i, len(got), e)
		}
	}
}

func TestEncodeRefusesWhatIsNotRight(t *testing.T) {
	for i, x := range wrong() {
		if got, e := Encode(x); got != "" || e != api.ErrArg {
			t.Errorf("%d: %d bytes, error %d", i, len(got), e)
		}
	}
}

func TestDecodeReadsWhatEncodeMakes(t *testing.T) {
	for i, x := range right() {
		if got, e := Decode(bytesOf(x)); !same(got, x) || e != api.OK {
			t.Errorf("%d: %d Pairs, error %d", i, len(got.Pairs), e)
		}
	}
}

func TestDecodeRefusesBytesOfNoToken(t *testing.T) {
	one, two := bytesOf(of(1, 7)), bytesOf(forge(of(1, 7, 2, 7)))
	bad := []string{"", strings.Repeat("\x00", 16), strings.Repeat("\x00", 32), one[1:], one + "\x00", "\x00" + one, two + "\x01", one + one}
	for n := range len(two) {
		if n != 1 && n != 17 {
			bad = append(bad, two[:n])
		}
	}
	for b := 2; b < 256; b++ {
		first := string([]byte{byte(b)})
		bad = append(bad, first, first+one[1:], first+two[1:])
	}
	for _, s := range bad {
		if got, e := Decode(s); !empty(got) || e != api.ErrForm {
			t.Errorf("Decode(%q) = %v, %d", s, got, e)
		}
	}
}

func TestDecodeRefusesPairsThatAreNotInOrder(t *testing.T) {
	for i, x := range unordered() {
		if got, e := Decode(bytesOf(x)); !empty(got) || e != api.ErrForm {
			t.Errorf("%d: %d Pairs, error %d", i, len(got.Pairs), e)
		}
	}
}

func TestDecodeRefusesMoreThan2048Pairs(t *testing.T) {
	if got, e := Decode(bytesOf(upTo(2048, 7))); !same(got, upTo(2048, 7)) || e != api.OK {
		t.Errorf("of 2048: %d Pairs, error %d", len(got.Pairs), e)
	}
	for i, x := range tooMany() {
		if got, e := Decode(bytesOf(x)); !empty(got) || e != api.ErrLong {
			t.Errorf("%d: %d Pairs, error %d", i, len(got.Pairs), e)
		}
	}
}

func TestDecodeTellsFormAheadOfLength(t *testing.T) {
	long := bytesOf(upTo(2049, 7))
	for i, s := range []string{
		"\x02" + long[1:], "\xff" + long[1:], long + "\x00", long[:len(long)-1], long[1:],
		bytesOf(of(1, 1)) + long[1:], bytesOf(shuffledEnd(2049)),
	} {
		if got, e := Decode(s); !empty(got) || e != api.ErrForm {
			t.Errorf("%d: %d Pairs, error %d", i, len(got.Pairs), e)
		}
	}
}

// E3.

func TestKeysAreThoseOfOneRoot(t *testing.T) {
	for i, c := range []struct {
		t    api.Token
		root uint64
		want []uint64
	}{
		{api.Token{}, 0, nil},
		{api.Token{}, 7, nil},
		{api.Token{Forged: true}, 7, nil},
		{of(0, 0), 0, []uint64{0}},
		{of(1, 7), 7, []uint64{1}},
		{of(1, 7, 3, 7), 7, []uint64{1, 3}},
		{forge(of(1, 7, 3, 7)), 7, []uint64{1, 3}},
		{of(0, top, 1, top, 1<<63, top, top, top), top, []uint64{0, 1, 1 << 63, top}},
	} {
		if got, is := Keys(c.t, c.root); !slices.Equal(got, c.want) || !is {
			t.Errorf("%d: %v, %v, want %v", i, got, is, c.want)
		}
	}
	got, is := Keys(upTo(2048, 7), 7)
	if !is || len(got) != 2048 || got[0] != 0 || got[2047] != 2047 || !slices.IsSorted(got) {
		t.Errorf("of 2048 pairs: %d, %v", len(got), is)
	}
}

func TestThereAreNoKeysOfAnythingElse(t *testing.T) {
	for i, c := range []struct {
		t    api.Token
		root uint64
	}{
		{of(1, 7), 8}, {of(1, 7), 1}, {of(0, 1), 0}, {of(1, 0), 1}, {forge(of(1, 7)), 6}, {of(1, 7), 7 + 1<<32},
		{of(1, 7, 3, 8), 7}, {of(1, 7, 3, 8), 8}, {of(1, 7, 2, 7, 3, 6), 7}, {of(1, 6, 2, 7, 3, 7), 7}, {of(1, 7, 2, 8, 3, 7), 7},
		{of(1, 7, 1, 7), 7}, {of(0, 0, 0, 0), 0}, {of(1, 7, 2, 7, 2, 7), 7}, {of(1, 7, 1, 7, 2, 7), 7}, {of(0, 7, 1, 7, 1, 7, 2, 7), 7},
		{of(1, 7, 1, 8), 7}, {of(1, 7, 1, 8), 8}, {forge(of(1, 7, 1, 7)), 7}, {alike(2048, 3, 4), 4},
	} {
		if got, is := Keys(c.t, c.root); len(got) != 0 || is {
			t.Errorf("%d: %v, %v", i, got, is)
		}
	}
	for i, x := range wrong() {
		for _, root := range []uint64{0, 1, 4, 7} {
			if got, is := Keys(x, root); len(got) != 0 || is {
				t.Errorf("wrong %d, root %d: %d keys, %v", i, root, len(got), is)
			}
		}
	}
}

// E4.

func TestDecodeUndoesEncodeAndEncodeDecode(t *testing.T) {
	for i, x := range right() {
		s, _ := Encode(x)
		got, e := Decode(s)
		if !same(got, x) || e != api.OK {
			t.Errorf("%d: error %d", i, e)
		}
		if again, e := Encode(got); again != s || e != api.OK {
			t.Errorf("%d: other bytes, error %d", i, e)
		}
	}
	r := rand.New(rand.NewSource(6))
	read := 0
	for range 20000 {
		b := make([]byte, 1+16*r.Intn(4))
		for i := range b {
			b[i] = byte(r.Intn(3))
		}
		got, e := Decode(string(b))
		if e != api.OK {
			continue
		}
		read++
		if s, e := Encode(got); s != string(b) || e != api.OK {
			t.Errorf("%q became %q, error %d", b, s, e)
		}
	}
	if read < 1000 {
		t.Errorf("%d were read: too little is tried", read)
	}
}

func TestUnlikeTokensHaveUnlikeBytes(t *testing.T) {
	r := rand.New(rand.NewSource(7))
	l := append(some(r, 100), right()...)
	for _, a := range l {
		for _, b := range l {
			s, _ := Encode(a)
			u, _ := Encode(b)
			if (s == u) != same(a, b) {
				t.Fatalf("%v and %v", a, b)
			}
		}
	}
}

func TestMergeDoesNotHangOnOrder(t *testing.T) {
	r := rand.New(rand.NewSource(8))
	for range 300 {
		l := some(r, 5)
		want, _ := Merge(l...)
		r.Shuffle(len(l), func(i, j int) { l[i], l[j] = l[j], l[i] })
		if got, e := Merge(l...); !same(got, want) || e != api.OK {
			t.Fatalf("%v: %v, %d, want %v", l, got, e, want)
		}
	}
}

func TestMergeDoesNotHangOnWhatIsTakenTogether(t *testing.T) {
	r := rand.New(rand.NewSource(9))
	for range 300 {
		l := some(r, 5)
		want, _ := Merge(l...)
		for cut := range len(l) + 1 {
			ahead, _ := Merge(l[:cut]...)
			behind, _ := Merge(l[cut:]...)
			if got, e := Merge(ahead, behind); !same(got, want) || e != api.OK {
				t.Fatalf("%v cut at %d: %v, %d, want %v", l, cut, got, e, want)
			}
		}
		var all api.Token
		for _, x := range l {
			all, _ = Merge(all, x)
		}
		if !same(all, want) {
			t.Fatalf("%v, one by one: %v, want %v", l, all, want)
		}
	}
}

func TestWhatIsForgedStaysSo(t *testing.T) {
	x := forge(of(1, 7))
	for i := range 20 {
		x, _ = Merge(x, One(uint64(i), 7))
		s, _ := Encode(x)
		x, _ = Decode(s)
		if !x.Forged {
			t.Fatalf("after %d more: not Forged", i+1)
		}
	}
}

// R3.

func TestTokensAreLeftAsTheyWere(t *testing.T) {
	rooms := [][]api.Pair{of(1, 9, 5, 7, 0, 0, 9, 9).Pairs, of(0, 3, 1, 9, 1, 1, 2, 2).Pairs}
	tokens := []api.Token{{Pairs: rooms[0][:2]}, {Pairs: rooms[1][:2], Forged: true}}
	Right(tokens[0])
	Merge(tokens...)
	Merge(tokens[0])
	Encode(tokens[0])
	Keys(tokens[0], 7)
	if !slices.Equal(rooms[0], of(1, 9, 5, 7, 0, 0, 9, 9).Pairs) || !slices.Equal(rooms[1], of(0, 3, 1, 9, 1, 1, 2, 2).Pairs) {
		t.Errorf("became %v", rooms)
	}
	if !same(tokens[0], of(1, 9, 5, 7)) || !same(tokens[1], forge(of(0, 3, 1, 9))) {
		t.Errorf("became %v", tokens)
	}
}

func TestAnswersAreNewMemory(t *testing.T) {
	x := of(1, 7, 2, 7)
	s := bytesOf(x)
	for i, ask := range []func() api.Token{
		func() api.Token { return One(3, 4) },
		func() api.Token { m, _ := Merge(x); return m },
		func() api.Token { m, _ := Merge(api.Token{}, x, api.Token{}); return m },
		func() api.Token { d, _ := Decode(s); return d },
	} {
		got, other := ask(), ask()
		was := slices.Clone(other.Pairs)
		all := got.Pairs[:cap(got.Pairs)]
		for j := range all {
			all[j] = api.Pair{Key: 99, Root: 99}
		}
		if !slices.Equal(other.Pairs, was) || !same(x, of(1, 7, 2, 7)) {
			t.Errorf("%d: what was written into one answer stands elsewhere, too", i)
		}
	}
	keys, _ := Keys(x, 7)
	other, _ := Keys(x, 7)
	keys[0] = 99
	if other[0] != 1 || x.Pairs[0].Key != 1 {
		t.Error("keys share memory")
	}
}

// R4.

func TestTheSameIsAnsweredForTheSame(t *testing.T) {
	for i, x := range append(right(), wrong()...) {
		a, d := Merge(x, One(1, 7))
		b, e := Merge(x, One(1, 7))
		s, f := Encode(x)
		u, g := Encode(x)
		if !same(a, b) || d != e || s != u || f != g || Right(x) != Right(x) {
			t.Errorf("%d: two answers", i)
		}
	}
}
