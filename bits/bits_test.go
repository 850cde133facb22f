package bits

import (
	"math"
	"slices"
	"strings"
	"testing"

	"mootbell/api"
)

func of(n int, on ...int) api.Bits { return api.Bits{Len: n, On: on} }

func same(a, b api.Bits) bool { return a.Len == b.Len && slices.Equal(a.On, b.On) }

func empty(b api.Bits) bool { return same(b, api.Bits{}) }

func noughts(n int) string { return strings.Repeat("\x00", n) }

func upTo(n int) []int {
	on := make([]int, n)
	for i := range on {
		on[i] = i
	}
	return on
}

// everySet is all bits of Len n, of which there are 2^n.
func everySet(n int) []api.Bits {
	var all []api.Bits
	for w := range 1 << n {
		b := of(n)
		for i := range n {
			if w>>i&1 == 1 {
				b.On = append(b.On, i)
			}
		}
		all = append(all, b)
	}
	return all
}

func wrong() []api.Bits {
	return []api.Bits{
		of(-1), of(math.MinInt), of(api.MaxBits + 1), of(api.MaxBits+1, 0), of(math.MaxInt, 5), of(-1, -2),
		of(0, 0), of(0, -1), of(1, 1), of(9, 9), of(9, 0, 9), of(9, 10), of(9, -1), of(9, -1, 3),
		of(9, 3, 3), of(9, 0, 0), of(9, 8, 8), of(9, 3, 1), of(9, 1, 5, 4), of(9, 1, 5, 1),
		of(9, math.MinInt), of(9, math.MaxInt), of(9, 3, math.MinInt), of(9, 3, math.MaxInt),
		of(api.MaxBits, api.MaxBits), of(api.MaxBits, append(upTo(api.MaxBits), 0)...),
	}
}

func right() []api.Bits {
	return []api.Bits{
		of(0), of(1), of(1, 0), of(7, 6), of(8), of(8, 7), of(9, 0, 8), of(15, 14), of(16, 0, 7, 8, 15), of(17, 16),
		of(64, 63), of(65, 63, 64), of(2047, 2046), of(2047, upTo(2047)...),
		of(api.MaxBits), of(api.MaxBits, 0), of(api.MaxBits, 2047), of(api.MaxBits, upTo(api.MaxBits)...),
	}
}

// B1.

func TestRightTellsWhichBitsMayBe(t *testing.T) {
	for _, b := range right() {
		if !Right(b) {
			t.Errorf("Len %d, On %v: not right", b.Len, b.On)
		}
	}
	for _, b := range wrong() {
		if Right(b) {
			t.Errorf("Len %d, On %v: right", b.Len, b.On)
		}
	}
	if !Right(api.Bits{Len: 3, On: []int{}}) {
		t.Error("a list without elements is not right")
	}
}

func TestListIsTheBitsAndOneMore(t *testing.T) {
	for _, c := range []struct {
		b    api.Bits
		want string
	}{
		{of(0), "\x01"},
		{of(1), "\x02"},
		{of(1, 0), "\x03"},
		{of(3, 0, 2), "\x0d"},
		{of(7), "\x80"},
		{of(7, upTo(7)...), "\xff"},
		{of(8), "\x00\x01"},
		{of(8, upTo(8)...), "\xff\x01"},
		{of(15, 14), "\x00\xc0"},
		{of(16, 9), "\x00\x02\x01"},
		{of(2047, 0), "\x01" + noughts(254) + "\x80"},
		{of(2048, 8, 2047), "\x00\x01" + noughts(253) + "\x80\x01"},
	} {
		if got, e := List(c.b); got != c.want || e != api.OK {
			t.Errorf("List(%v) = %q, %d, want %q", c.b, got, e, c.want)
		}
	}
}

func TestListRefusesWhatIsNotRight(t *testing.T) {
	for _, b := range wrong() {
		if got, e := List(b); got != "" || e != api.ErrArg {
			t.Errorf("List(%d, %v) = %q, %d", b.Len, b.On, got, e)
		}
	}
}

func TestUnlistReadsWhatHasAnEnd(t *testing.T) {
	for _, c := range []struct {
		s    string
		most int
		want api.Bits
	}{
		{"\x01", 0, of(0)},
		{"\x01", math.MaxInt, of(0)},
		{"\x0d", 3, of(3, 0, 2)},
		{"\xff", 7, of(7, upTo(7)...)},
		{"\x00\x01", 8, of(8)},
		{"\x80\x03", 9, of(9, 7, 8)},
		{noughts(255) + "\x80", 2047, of(2047)},
		{noughts(256) + "\x01", 2048, of(2048)},
		{strings.Repeat("\xff", 256) + "\x01", math.MaxInt, of(2048, upTo(2048)...)},
	} {
		if got, e := Unlist(c.s, c.most); !same(got, c.want) || e != api.OK {
			t.Errorf("Unlist(%q, %d) = %v, %d, want %v", c.s, c.most, got, e, c.want)
		}
	}
}

func TestUnlistRefuses(t *testing.T) {
	for _, c := range []struct {
		s    string
		most int
		want api.Errno
	}{
		{"", 0, api.ErrForm},
		{"", 2048, api.ErrForm},
		{"\x00", 2048, api.ErrForm},
		{"\xff\x00", 2048, api.ErrForm},
		{"\x01", -1, api.ErrLong},
		{"\x01", math.MinInt, api.ErrLong},
		{"\x02", 0, api.ErrLong},
		{"\x0d", 2, api.ErrLong},
		{"\x00\x01", 7, api.ErrLong},
		{noughts(256) + "\x01", 2047, api.ErrLong},
		{noughts(256) + "\x02", 2049, api.ErrLong},
		{noughts(256) + "\x03", math.MaxInt, api.ErrLong},
		{noughts(257) + "\x01", math.MaxInt, api.ErrLong},
		{strings.Repeat("\xff", 1<<20), math.MaxInt, api.ErrLong},
	} {
		if got, e := Unlist(c.s, c.most); !empty(got) || e != c.want {
			t.Errorf("Unlist(%d bytes, %d) = %v, %d, want error %d", len(c.s), c.most, got, e, c.want)
		}
	}
}

func TestUnlistNamesTheFormFirst(t *testing.T) {
	for _, s := range []string{"", "\x00", noughts(300), strings.Repeat("\xff", 300) + "\x00"} {
		for _, most := range []int{math.MinInt, -1, 0} {
			if got, e := Unlist(s, most); !empty(got) || e != api.ErrForm {
				t.Errorf("Unlist(%d bytes, %d) = %v, %d", len(s), most, got, e)
			}
		}
	}
}

// B2.

func TestVectorIsTheBitsAlone(t *testing.T) {
	for _, c := range []struct {
		b    api.Bits
		want string
	}{
		{of(0), ""},
		{of(1), "\x00"},
		{of(1, 0), "\x01"},
		{of(3, 0, 2), "\x05"},
		{of(7, 6), "\x40"},
		{of(8), "\x00"},
		{of(8, upTo(8)...), "\xff"},
		{of(9), "\x00\x00"},
		{of(9, 8), "\x00\x01"},
		{of(16, 15), "\x00\x80"},
		{of(2048, 0), "\x01" + noughts(255)},
		{of(2048, 2047), noughts(255) + "\x80"},
	} {
		if got, e := Vector(c.b); got != c.want || e != api.OK {
			t.Errorf("Vector(%v) = %q, %d, want %q", c.b, got, e, c.want)
		}
	}
}

func TestVectorRefusesWhatIsNotRight(t *testing.T) {
	for _, b := range wrong() {
		if got, e := Vector(b); got != "" || e != api.ErrArg {
			t.Errorf("Vector(%d, %v) = %q, %d", b.Len, b.On, got, e)
		}
	}
}

func TestUnvectorReadsSoManyBits(t *testing.T) {
	for _, c := range []struct {
		s    string
		n    int
		want api.Bits
	}{
		{"", 0, of(0)},
		{"\x00", 1, of(1)},
		{"\x01", 1, of(1, 0)},
		{"\x7f", 7, of(7, upTo(7)...)},
		{"\x80", 8, of(8, 7)},
		{"\x80\x01", 9, of(9, 7, 8)},
		{"\x80\x01", 16, of(16, 7, 8)},
		{noughts(256), 2041, of(2041)},
		{strings.Repeat("\xff", 256), 2048, of(2048, upTo(2048)...)},
	} {
		if got, e := Unvector(c.s, c.n); !same(got, c.want) || e != api.OK {
			t.Errorf("Unvector(%q, %d) = %v, %d, want %v", c.s, c.n, got, e, c.want)
		}
	}
}

func TestUnvectorRefuses(t *testing.T) {
	for _, c := range []struct {
		s    string
		n    int
		want api.Errno
	}{
		{"", -1, api.ErrArg},
		{"\x00", math.MinInt, api.ErrArg},
		{noughts(257), 2049, api.ErrArg},
		{"", math.MaxInt, api.ErrArg},
		{"\xff", -1, api.ErrArg},
		{"", 1, api.ErrForm},
		{"\x00", 0, api.ErrForm},
		{"\x00", 9, api.ErrForm},
		{"\x00\x00", 8, api.ErrForm},
		{"\x02", 1, api.ErrForm},
		{"\x81", 7, api.ErrForm},
		{"\x00\x02", 9, api.ErrForm},
		{"\xff\x80", 15, api.ErrForm},
		{noughts(255), 2048, api.ErrForm},
		{noughts(257), 2048, api.ErrForm},
		{noughts(255) + "\x80", 2047, api.ErrForm},
		{noughts(1 << 20), 2048, api.ErrForm},
	} {
		if got, e := Unvector(c.s, c.n); !empty(got) || e != c.want {
			t.Errorf("Unvector(%d bytes, %d) = %v, %d, want error %d", len(c.s), c.n, got, e, c.want)
		}
	}
}

// B3.

func TestUnionIsAllThatIsSet(t *testing.T) {
	for _, c := range []struct {
		a    api.Bits
		more []api.Bits
		want api.Bits
	}{
		{of(0), nil, of(0)},
		{of(0), []api.Bits{of(0), of(0)}, of(0)},
		{of(5, 1, 4), nil, of(5, 1, 4)},
		{of(5, 1, 4), []api.Bits{of(5)}, of(5, 1, 4)},
		{of(5), []api.Bits{of(5, 0)}, of(5, 0)},
		{of(5, 1, 4), []api.Bits{of(5, 1, 4)}, of(5, 1, 4)},
		{of(9, 8), []api.Bits{of(9, 0), of(9, 7), of(9, 0, 8)}, of(9, 0, 7, 8)},
		{of(2048, 2047), []api.Bits{of(2048, 0), of(2048, 1000)}, of(2048, 0, 1000, 2047)},
		{of(2048, 2047), []api.Bits{of(2048, upTo(2047)...)}, of(2048, upTo(2048)...)},
	} {
		if got, e := Union(c.a, c.more...); !same(got, c.want) || e != api.OK {
			t.Errorf("Union(%v, %v) = %v, %d", c.a, c.more, got, e)
		}
	}
}

func TestUnionRefusesWhereverTheWrongOneStands(t *testing.T) {
	refused := func(a api.Bits, more ...api.Bits) {
		if got, e := Union(a, more...); !empty(got) || e != api.ErrArg {
			t.Errorf("Union(%v, %v) = %v, %d", a, more, got, e)
		}
	}
	for _, w := range wrong() {
		refused(w)
		refused(w, w)
		r := of(w.Len)
		refused(r, w)
		refused(w, r)
		refused(r, r, w)
		refused(r, w, r)
	}
	a, b := of(8, 1), of(9, 1)
	refused(a, b)
	refused(b, a)
	refused(a, a, b)
	refused(a, b, a)
	refused(of(0), of(2048))
}

func TestSetsOfAllSmallBits(t *testing.T) {
	for n := range 6 {
		all := everySet(n)
		for i, a := range all {
			for j, b := range all {
				if got := Disjoint(a, b); got != (i&j == 0) {
					t.Errorf("Disjoint(%v, %v) = %v", a, b, got)
				}
				if got := Subset(a, b); got != (i&j == i) {
					t.Errorf("Subset(%v, %v) = %v", a, b, got)
				}
				if got, e := Union(a, b); !same(got, all[i|j]) || e != api.OK {
					t.Errorf("Union(%v, %v) = %v, %d", a, b, got, e)
				}
			}
			for k := -2; k < n+2; k++ {
				if got := Has(a, k); got != (k >= 0 && i>>k&1 == 1) {
					t.Errorf("Has(%v, %d) = %v", a, k, got)
				}
			}
		}
	}
}

func TestSetsOfManyBits(t *testing.T) {
	all := of(2048, upTo(2048)...)
	last, first := of(2048, 2047), of(2048, 0)
	if !Disjoint(first, last) || Disjoint(last, all) || Disjoint(all, first) {
		t.Error("Disjoint")
	}
	if !Subset(last, all) || Subset(all, last) || Subset(first, last) || !Subset(all, all) {
		t.Error("Subset")
	}
	if !Has(last, 2047) || Has(last, 2046) || Has(last, 2048) || Has(last, math.MinInt) || Has(last, math.MaxInt) {
		t.Error("Has")
	}
}

func TestSetsOfWrongBitsAreFalse(t *testing.T) {
	for _, w := range wrong() {
		for _, o := range []api.Bits{of(w.Len), of(9, 3), w} {
			if Disjoint(w, o) || Disjoint(o, w) {
				t.Errorf("Disjoint of Len %d, On %v", w.Len, w.On)
			}
			if Subset(w, o) || Subset(o, w) {
				t.Errorf("Subset of Len %d, On %v", w.Len, w.On)
			}
		}
		for _, i := range append([]int{0, 1, 3, 8, 9, -1}, w.On...) {
			if Has(w, i) {
				t.Errorf("Has(Len %d, On %v, %d)", w.Len, w.On, i)
			}
		}
	}
}

func TestSetsOfUnlikeLenAreFalse(t *testing.T) {
	for _, c := range [][2]api.Bits{{of(8), of(9)}, {of(8, 1), of(9, 1)}, {of(8, 1), of(9, 2)}, {of(0), of(2048)}} {
		a, b := c[0], c[1]
		if Disjoint(a, b) || Disjoint(b, a) || Subset(a, b) || Subset(b, a) {
			t.Errorf("%v, %v", a, b)
		}
	}
}

// B4.

func TestUnlistAndUnvectorUndo(t *testing.T) {
	all := right()
	for n := range 11 {
		all = append(all, everySet(n)...)
	}
	lists := map[string]api.Bits{}
	for _, b := range all {
		l, e := List(b)
		v, f := Vector(b)
		if e != api.OK || f != api.OK || len(l) != b.Len/8+1 || len(v) != (b.Len+7)/8 {
			t.Fatalf("%v: %d bytes, %d; %d bytes, %d", b, len(l), e, len(v), f)
		}
		if got, e := Unlist(l, b.Len); !same(got, b) || e != api.OK {
			t.Errorf("Unlist of %v: %v, %d", b, got, e)
		}
		if got, e := Unvector(v, b.Len); !same(got, b) || e != api.OK {
			t.Errorf("Unvector of %v: %v, %d", b, got, e)
		}
		if other, there := lists[l]; there && !same(other, b) {
			t.Errorf("%v and %v have one list", other, b)
		}
		lists[l] = b
	}
}

func TestEveryTextIsReadOneWay(t *testing.T) {
	for w := range 1 << 16 {
		s := string([]byte{byte(w), byte(w >> 8)})
		if b, e := Unlist(s, 2048); e == api.OK {
			if l, _ := List(b); l != s {
				t.Errorf("List(Unlist(%q)) = %q", s, l)
			}
		} else if s[1] != 0 || e != api.ErrForm {
			t.Errorf("Unlist(%q): %d", s, e)
		}
		for n := 9; n <= 16; n++ {
			if b, e := Unvector(s, n); e == api.OK {
				if v, _ := Vector(b); v != s {
					t.Errorf("Vector(Unvector(%q, %d)) = %q", s, n, v)
				}
			} else if w < 1<<n || e != api.ErrForm {
				t.Errorf("Unvector(%q, %d): %d", s, n, e)
			}
		}
	}
}

func TestUnionIsTheLeastOfAllOrders(t *testing.T) {
	all := everySet(3)
	for i, a := range all {
		for j, b := range all {
			for k, c := range all {
				want := all[i|j|k]
				for _, order := range [][3]api.Bits{{a, b, c}, {a, c, b}, {b, a, c}, {b, c, a}, {c, a, b}, {c, b, a}} {
					u, e := Union(order[0], order[1:]...)
					if !same(u, want) || e != api.OK {
						t.Fatalf("Union(%v) = %v, %d", order, u, e)
					}
				}
				if !Subset(a, want) || !Subset(b, want) || !Subset(c, want) {
					t.Fatalf("%v, %v, %v are not all in %v", a, b, c, want)
				}
				for _, d := range all {
					if above := Subset(a, d) && Subset(b, d) && Subset(c, d); above != Subset(want, d) {
						t.Fatalf("%v, %v, %v, and %v: %v", a, b, c, d, above)
					}
				}
			}
		}
	}
}

// R3.

// roomy has room behind its numbers, in which nothing may be written.
func roomy(n int, on ...int) (api.Bits, []int) {
	whole := append(slices.Clone(on), -7, -7, -7)
	return api.Bits{Len: n, On: whole[:len(on)]}, whole
}

func TestArgumentsStayAsTheyWere(t *testing.T) {
	a, wholeA := roomy(9, 1, 3)
	b, wholeB := roomy(9, 0, 8)
	more := []api.Bits{b, a, of(1)}
	List(a)
	Vector(a)
	Union(a, more[:2]...)
	Union(a, more...)
	Disjoint(a, b)
	Subset(a, b)
	Has(a, 3)
	if !slices.Equal(wholeA, []int{1, 3, -7, -7, -7}) || !slices.Equal(wholeB, []int{0, 8, -7, -7, -7}) {
		t.Error(wholeA, wholeB)
	}
	if !same(more[0], b) || !same(more[1], a) || !same(more[2], of(1)) {
		t.Error(more)
	}
}

func TestUnionIsNewMemory(t *testing.T) {
	a, whole := roomy(9, 1, 3)
	for _, more := range [][]api.Bits{nil, {a}, {of(9)}} {
		u, _ := Union(a, more...)
		v, _ := Union(a, more...)
		u.On[0] = 99
		_ = append(u.On, 98, 97, 96)
		if !slices.Equal(whole, []int{1, 3, -7, -7, -7}) || !same(v, of(9, 1, 3)) {
			t.Error(whole, v)
		}
	}
}
