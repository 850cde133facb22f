package lag

import (
	"math"
	"math/big"
	"testing"

	"mootbell/api"
)

// Words by their bits, so that the tests lean on no float of the program.
const (
	sign     uint64 = 1 << 63
	one      uint64 = 0x3ff0000000000000
	infinity uint64 = 0x7ff0000000000000
	greatest uint64 = infinity - 1
	normal   uint64 = 1 << 52 // the least one that is not subnormal
	mantissa uint64 = normal - 1
)

func word(f float64) uint64 { return math.Float64bits(f) }

func nans() []uint64 {
	return []uint64{
		api.NaN, api.NaN - 1, api.NaN + 1, infinity + 1, infinity | mantissa, infinity | 1<<51, infinity | 1<<50,
		sign | api.NaN, sign | infinity | 1, sign | infinity | 1<<51, math.MaxUint64,
	}
}

// rising is words of floats each of which is less than the next one.
func rising() []uint64 {
	above := []uint64{
		1, 2, 3, mantissa - 1, mantissa, normal, normal + 1, word(1e-300), word(0.1), word(0.5), one - 1, one, one + 1,
		word(1.5), word(2), word(3), word(1e6), word(1<<40 - 1), word(1 << 40), word(1<<40) + 1, word(1 << 53), word(1 << 63),
		word(1e300), greatest - 1, greatest, infinity,
	}
	var all []uint64
	for i := range above {
		all = append(all, sign|above[len(above)-1-i])
	}
	all = append(all, 0)
	return append(all, above...)
}

// words is all of rising, the other zero, and NaNs.
func words() []uint64 { return append(append(rising(), sign), nans()...) }

// rank is a number that is less where a word's float is, worked out of its bits alone.
func rank(w uint64) int {
	size := int(w &^ sign)
	switch {
	case size > int(infinity):
		return math.MaxInt
	case w >= sign:
		return -size
	}
	return size
}

// many calls f with words that are spread over all kinds of floats.
func many(f func(w uint64)) {
	for _, w := range words() {
		f(w)
	}
	w := uint64(1)
	for range 20000 {
		w = w*6364136223846793005 + 1442695040888963407
		f(w ^ w>>29)
	}
}

// C1.

func TestPlainIsOneWordOfEachFloat(t *testing.T) {
	for _, w := range nans() {
		if got := Plain(w); got != api.NaN {
			t.Errorf("Plain(%x): %x, of a NaN", w, got)
		}
	}
	for _, w := range []uint64{0, sign} {
		if got := Plain(w); got != 0 {
			t.Errorf("Plain(%x): %x, of a zero", w, got)
		}
	}
	for _, w := range rising() {
		if got := Plain(w); got != w {
			t.Errorf("Plain(%x): %x", w, got)
		}
	}
	many(func(w uint64) {
		if Plain(Plain(w)) != Plain(w) {
			t.Errorf("Plain of Plain of %x is another one", w)
		}
	})
}

func TestLessTellsTheOrderOfFloats(t *testing.T) {
	l := rising()
	for i, a := range l {
		for k, b := range l {
			if Less(a, b) != (i < k) {
				t.Errorf("Less(%x, %x): %v", a, b, i >= k)
			}
		}
	}
	for _, a := range words() {
		for _, b := range words() {
			if Less(a, b) != (rank(a) < rank(b)) {
				t.Errorf("Less(%x, %x): %v", a, b, Less(a, b))
			}
		}
	}
}

func TestLessHoldsZerosForAlike(t *testing.T) {
	if Less(0, sign) || Less(sign, 0) || Less(sign, sign) || Less(0, 0) {
		t.Error("a zero is less than a zero")
	}
	if !Less(sign, 1) || !Less(sign|1, 0) || Less(1, sign) || Less(0, sign|1) {
		t.Error("a zero stands elsewhere than between the least ones")
	}
}

func TestLessHasNaNsAboveAll(t *testing.T) {
	for _, n := range nans() {
		for _, w := range append(rising(), sign) {
			if !Less(w, n) {
				t.Errorf("%x is not less than the NaN %x", w, n)
			}
			if Less(n, w) {
				t.Errorf("the NaN %x is less than %x", n, w)
			}
		}
		for _, m := range nans() {
			if Less(n, m) {
				t.Errorf("the NaN %x is less than the NaN %x", n, m)
			}
		}
	}
}

// C2.

func TestMedianIsTheOneInTheMiddle(t *testing.T) {
	for _, c := range []struct{ a, b, c, want uint64 }{
		{word(1), word(2), word(3), word(2)},
		{word(3), word(1), word(2), word(2)},
		{word(2), word(3), word(1), word(2)},
		{word(-1), word(-2), word(-3), word(-2)},
		{word(5), word(5), word(9), word(5)},
		{word(9), word(5), word(9), word(9)},
		{word(7), word(7), word(7), word(7)},
		{api.NaN, one, infinity, infinity},
		{sign | infinity, infinity, one, one},
		{sign, 0, 5, 0},
		{5, sign, 5, 5},
		{sign, sign, sign, 0},
		{sign, sign | 1, 1, 0},
		{math.MaxUint64, one, infinity | 1, api.NaN},
		{math.MaxUint64, infinity | 1, sign | api.NaN, api.NaN},
		{one, math.MaxUint64, sign, one},
	} {
		if got := Median(c.a, c.b, c.c); got != c.want {
			t.Errorf("Median(%x, %x, %x): %x, not %x", c.a, c.b, c.c, got, c.want)
		}
	}
}

func TestMedianHasAtMostOneBelowItAndOneAbove(t *testing.T) {
	l := words()
	for _, a := range l {
		for _, b := range l {
			for _, c := range l {
				m := Median(a, b, c)
				if m != Plain(a) && m != Plain(b) && m != Plain(c) {
					t.Fatalf("Median(%x, %x, %x): %x is none of them", a, b, c, m)
				}
				under, over := 0, 0
				for _, w := range []uint64{a, b, c} {
					if rank(w) < rank(m) {
						under++
					}
					if rank(m) < rank(w) {
						over++
					}
				}
				if under > 1 || over > 1 {
					t.Fatalf("Median(%x, %x, %x): %x has %d below it, %d above", a, b, c, m, under, over)
				}
			}
		}
	}
}

// C3.

func TestOfIsTheNextFloat(t *testing.T) {
	for _, c := range []struct {
		n    int
		want uint64
	}{
		{0, 0},
		{1, one},
		{-1, sign | one},
		{2, one + normal},
		{3, one + normal + 1<<51},
		{api.MaxTick, one + 40*normal},
		{1<<53 - 1, one + 53*normal - 1},
		{1 << 53, one + 53*normal},
		{1<<53 + 1, one + 53*normal},
		{1<<53 + 2, one + 53*normal + 1},
		{1<<53 + 3, one + 53*normal + 2},
		{-(1<<53 + 1), sign | one + 53*normal},
		{-(1<<53 + 3), sign | one + 53*normal + 2},
		{1<<54 + 2, one + 54*normal},
		{1<<54 + 3, one + 54*normal + 1},
		{1<<54 + 6, one + 54*normal + 2},
		{1<<62 + 1, one + 62*normal},
		{math.MaxInt - 512, one + 63*normal - 1},
		{math.MaxInt - 511, one + 63*normal},
		{math.MaxInt, one + 63*normal},
		{math.MinInt + 1, sign | one + 63*normal},
		{math.MinInt, sign | one + 63*normal},
	} {
		if got := Of(c.n); got != c.want {
			t.Errorf("Of(%d): %x, not %x", c.n, got, c.want)
		}
	}
	many(func(w uint64) {
		n := int(w)
		f, _ := new(big.Float).SetInt64(int64(n)).Float64()
		if got := Of(n); got != word(f) {
			t.Errorf("Of(%d): %x, not %x", n, got, word(f))
		}
	})
}

func TestTicksIsTheLeastWholeNumberThatIsNotLess(t *testing.T) {
	last := word(api.MaxTick)
	for _, c := range []struct {
		w    uint64
		want int
	}{
		{0, 0}, {sign, 0}, {sign | 1, 0}, {sign | one, 0}, {sign | greatest, 0}, {sign | infinity, 0},
		{1, 1}, {mantissa, 1}, {normal, 1}, {word(0.5), 1}, {one - 1, 1}, {one, 1}, {one + 1, 2}, {word(1.5), 2},
		{word(2), 2}, {word(2) + 1, 3}, {word(1e6), 1e6}, {word(1e6 + 0.25), 1e6 + 1},
		{word(1<<39 - 0.5), 1 << 39}, {word(1<<39 + 0.5), 1<<39 + 1},
		{word(api.MaxTick - 2), api.MaxTick - 2}, {word(api.MaxTick-2) + 1, api.MaxTick - 1},
		{word(api.MaxTick - 1), api.MaxTick - 1}, {last - 1, api.MaxTick}, {last, api.MaxTick}, {last + 1, api.MaxTick},
		{word(api.MaxTick + 1), api.MaxTick}, {word(1 << 62), api.MaxTick}, {word(1 << 63), api.MaxTick},
		{word(1 << 64), api.MaxTick}, {greatest, api.MaxTick}, {infinity, api.MaxTick},
	} {
		if n, e := Ticks(c.w); n != c.want || e != api.OK {
			t.Errorf("Ticks(%x): %d, error %d, not %d", c.w, n, e, c.want)
		}
	}
}

func TestTicksOfNoNumberIsAnError(t *testing.T) {
	for _, w := range nans() {
		if n, e := Ticks(w); n != 0 || e != api.ErrArg {
			t.Errorf("Ticks(%x): %d, error %d", w, n, e)
		}
	}
}

func TestTicksHoldsBetweenItsNeighbours(t *testing.T) {
	many(func(w uint64) {
		w = w&^(infinity|sign) + one + w%41*normal // from 1 up to 2^41
		n, e := Ticks(w)
		if e != api.OK || n < 1 || n > api.MaxTick {
			t.Fatalf("Ticks(%x): %d, error %d", w, n, e)
		}
		f := math.Float64frombits(w)
		if n < api.MaxTick && float64(n) < f || float64(n-1) >= f {
			t.Errorf("Ticks(%x): %d, of %v", w, n, f)
		}
	})
}

func TestScaleDoublesAndHalves(t *testing.T) {
	for _, c := range []struct {
		w    uint64
		k    int
		want uint64
	}{
		{one, 0, one}, {one, 3, word(8)}, {word(1.5), -1, word(0.75)}, {sign | one, 2, word(-4)},
		{one, -1022, normal}, {one, -1023, normal >> 1}, {one, -1074, 1}, {one, -1075, 0}, {one, -1076, 0},
		{one + 1, -1075, 1}, {sign | one + 1, -1075, sign | 1}, {sign | one, -1075, 0}, {sign | one, -1074, sign | 1},
		{word(3), -1075, 2}, {word(5), -1075, 2}, {word(7), -1075, 4}, {word(1.5), -1074, 2}, {word(1.5), -1075, 1}, {word(1.25), -1074, 1},
		{one, 1023, greatest &^ mantissa}, {one, 1024, infinity}, {sign | one, 1024, sign | infinity},
		{word(1) - 1, 1024, greatest}, {word(1) - 1, 1025, infinity}, {greatest, 0, greatest}, {greatest, 1, infinity}, {sign | greatest, 1, sign | infinity},
		{greatest, -2098, 1}, {greatest, -2099, 0}, {sign | greatest, -2099, 0},
		{1, 0, 1}, {1, -1, 0}, {3, -1, 2}, {5, -1, 2}, {3, -2, 1}, {2, -2, 0}, {1, 1, 2}, {1, 52, normal}, {1, 1074, one},
		{1, 2097, greatest &^ mantissa}, {1, 2098, infinity}, {sign | 1, 2098, sign | infinity},
		{mantissa, 1, 2*mantissa&mantissa | normal}, {normal | mantissa, -1, normal}, {normal + 1, -1, normal >> 1}, {normal + 3, -1, normal>>1 + 2},
	} {
		if got := Scale(c.w, c.k); got != c.want {
			t.Errorf("Scale(%x, %d): %x, not %x", c.w, c.k, got, c.want)
		}
	}
}

func TestScaleByAsMuchAsThereIs(t *testing.T) {
	for _, k := range []int{2098, 2099, 2200, 2201, 5000, 1 << 31, 1 << 32, 1 << 62, math.MaxInt - 2000, math.MaxInt - 1, math.MaxInt} {
		for _, w := range []uint64{1, mantissa, normal, one, greatest, infinity} {
			for _, s := range []uint64{0, sign} {
				if got := Scale(s|w, k); got != s|infinity {
					t.Errorf("Scale(%x, %d): %x", s|w, k, got)
				}
			}
		}
	}
	for _, k := range []int{-2099, -2100, -2200, -2201, -5000, -1 << 31, -1 << 32, -1 << 62, math.MinInt + 2000, math.MinInt + 1, math.MinInt} {
		for _, w := range []uint64{1, mantissa, normal, one, greatest} {
			for _, s := range []uint64{0, sign} {
				if got := Scale(s|w, k); got != 0 {
					t.Errorf("Scale(%x, %d): %x", s|w, k, got)
				}
			}
		}
	}
}

func TestScaleLeavesZerosInfiniteOnesAndNaNs(t *testing.T) {
	for _, k := range []int{math.MinInt, -9999, -1075, -1, 0, 1, 1024, 9999, math.MaxInt} {
		for _, w := range append(nans(), 0, sign, infinity, sign|infinity) {
			if got := Scale(w, k); got != Plain(w) {
				t.Errorf("Scale(%x, %d): %x", w, k, got)
			}
		}
	}
}

// exact is Scale by numbers of any length, which round but once, at the end.
func exact(w uint64, k int) uint64 {
	f := new(big.Float).SetMantExp(big.NewFloat(math.Float64frombits(w)), k)
	g, _ := f.Float64()
	if g == 0 {
		return 0
	}
	return word(g)
}

func TestScaleRoundsOnce(t *testing.T) {
	many(func(w uint64) {
		if w&infinity == infinity || w == 0 || w == sign {
			return
		}
		size := int(w & infinity >> 52)
		for _, k := range []int{-2 - size, -1 - size, -size, 1 - size, -26 - size, -52 - size, -53 - size, -54 - size, 2045 - size, 2046 - size, 2047 - size, 2099 - size, 1, -1, 17, -600} {
			if got, want := Scale(w, k), exact(w, k); got != want {
				t.Fatalf("Scale(%x, %d): %x, not %x", w, k, got, want)
			}
		}
	})
}

// C4.

func TestLessIsAnOrder(t *testing.T) {
	l := words()
	for _, a := range l {
		if Less(a, a) {
			t.Errorf("%x is less than itself", a)
		}
		for _, b := range l {
			if Less(a, b) && Less(b, a) {
				t.Errorf("%x and %x are less than each other", a, b)
			}
			if Less(a, b) == Less(b, a) && Plain(a) != Plain(b) {
				t.Errorf("%x and %x are unlike, and none is less", a, b)
			}
			for _, c := range l {
				if Less(a, b) && Less(b, c) && !Less(a, c) {
					t.Errorf("%x, %x and %x are not in order", a, b, c)
				}
			}
		}
	}
}

func TestMedianDoesNotHangOnOrder(t *testing.T) {
	l := words()
	for _, a := range l {
		for _, b := range l {
			for _, c := range l {
				m := Median(a, b, c)
				for _, other := range []uint64{Median(a, c, b), Median(b, a, c), Median(b, c, a), Median(c, a, b), Median(c, b, a)} {
					if other != m {
						t.Fatalf("%x, %x and %x: %x and %x", a, b, c, m, other)
					}
				}
			}
		}
	}
}

func TestTicksUndoesOf(t *testing.T) {
	held := func(n int) {
		if got, e := Ticks(Of(n)); got != n || e != api.OK {
			t.Errorf("Ticks(Of(%d)): %d, error %d", n, got, e)
		}
	}
	for n := range 3000 {
		held(n)
		held(api.MaxTick - n)
	}
	for i := range 41 {
		held(1 << i)
		held(1<<i - 1)
	}
	many(func(w uint64) { held(int(w % (api.MaxTick + 1))) })
}

func TestWhoIsNotLessHasNoFewerTicks(t *testing.T) {
	l := append(rising(), sign, word(1.25), word(1.75), word(api.MaxTick-0.5), word(api.MaxTick+0.5))
	for _, a := range l {
		for _, b := range l {
			n, _ := Ticks(a)
			m, _ := Ticks(b)
			if !Less(a, b) && n < m {
				t.Errorf("%x is not less than %x, but has %d Ticks, not %d", a, b, n, m)
			}
		}
	}
}

func TestWhatIsScaledBackIsAsItWas(t *testing.T) {
	many(func(w uint64) {
		size := int(w & infinity >> 52)
		if size == 0 || size == 2047 {
			return
		}
		for _, k := range []int{1 - size, 2046 - size, (1 - size) / 2, (2046 - size) / 3} {
			if got := Scale(Scale(w, k), -k); got != w {
				t.Errorf("%x scaled by %d and back is %x", w, k, got)
			}
		}
	})
	for _, w := range []uint64{1, 3, mantissa, sign | 5} {
		for _, k := range []int{1, 52, 1074, 2045} {
			if got := Scale(Scale(w, k), -k); got != w {
				t.Errorf("%x scaled by %d and back is %x", w, k, got)
			}
		}
	}
	if got := Scale(Scale(sign, 7), -7); got != 0 {
		t.Errorf("a zero scaled and back is %x", got)
	}
}

// R4.

func TestTheSameIsAnsweredForTheSame(t *testing.T) {
	many(func(w uint64) {
		n, e := Ticks(w)
		m, d := Ticks(w)
		if n != m || e != d || Scale(w, 3) != Scale(w, 3) || Of(int(w)) != Of(int(w)) || Plain(w) != Plain(w) {
			t.Errorf("%x: two answers", w)
		}
	})
}
