package window

import (
	"math"
	"math/big"
	"math/rand"
	"testing"

	"mootbell/api"
)

const last = 1 << 40 // tick

// chainOf is a chain that fits, of so many ticks a slot, and of that disparity and range.
func chainOf(ticks, disparity, reach int) api.Chain {
	return api.Chain{Validators: 9, Slots: 4, Committees: 3, Subnets: 10, Ticks: ticks, Disparity: disparity, Range: reach, Aggregators: 3}
}

func someChains() []api.Chain {
	l := []api.Chain{
		{Validators: 1, Slots: 1, Committees: 1, Subnets: 1, Ticks: 1, Range: 1, Aggregators: 1},
		{Validators: 1024, Slots: 32, Committees: 8, Subnets: 64, Ticks: 1000, Disparity: 1000, Range: 64, Rounds: 90, Aggregators: 16, Seed: math.MaxUint64},
	}
	for _, ticks := range []int{1, 2, 3, 10, 512, 1000} {
		for _, disparity := range []int{0, 1, ticks / 2, ticks/2 + 1, ticks - 1, ticks} {
			for _, reach := range []int{1, 2, 64} {
				l = append(l, chainOf(ticks, min(disparity, ticks), reach))
			}
		}
	}
	return l
}

// wrongChains is chains that do not fit, each by one of its numbers alone.
func wrongChains() []api.Chain {
	var l []api.Chain
	for _, f := range []struct {
		at          func(*api.Chain) *int
		least, most int
	}{
		{func(c *api.Chain) *int { return &c.Validators }, 1, 1024},
		{func(c *api.Chain) *int { return &c.Slots }, 1, 32},
		{func(c *api.Chain) *int { return &c.Committees }, 1, 8},
		{func(c *api.Chain) *int { return &c.Subnets }, 1, 64},
		{func(c *api.Chain) *int { return &c.Ticks }, 1, 1000},
		{func(c *api.Chain) *int { return &c.Disparity }, 0, 10},
		{func(c *api.Chain) *int { return &c.Range }, 1, 64},
		{func(c *api.Chain) *int { return &c.Rounds }, 0, 90},
		{func(c *api.Chain) *int { return &c.Aggregators }, 1, 16},
	} {
		for _, n := range []int{math.MinInt, -1, f.least - 1, f.most + 1, math.MaxInt} {
			c := chainOf(10, 0, 3)
			*f.at(&c) = n
			l = append(l, c)
		}
	}
	return append(l, api.Chain{})
}

func near(n int) []int { return []int{n - 2, n - 1, n, n + 1, n + 2} }

// slotEdges is slots about which something changes for a chain, and some that are far off.
func slotEdges(c api.Chain) []int {
	// By Ticks the last ones are small, modulo 2^64.
	l := []int{math.MinInt, -last, -1000, math.MaxInt - 1, math.MaxInt, 1 << 50, 1 << 54, 1 << 55, 1 << 61, 1<<61 + 1}
	for _, n := range []int{0, 1, 2, 66, last / c.Ticks, last/c.Ticks - c.Range - 1, last/c.Ticks - c.Range - 2, last, math.MaxInt / c.Ticks} {
		l = append(l, near(n)...)
	}
	return l
}

// tickEdges is ticks about which something changes for a chain, and some that are far off.
func tickEdges(c api.Chain) []int {
	l := []int{math.MinInt, math.MinInt + 1, -last, -1000, math.MaxInt - 1, math.MaxInt, 1 << 62}
	for _, n := range []int{0, c.Ticks, c.Disparity, c.Ticks - c.Disparity, c.Ticks + c.Disparity, 7 * c.Ticks,
		(c.Range + 1) * c.Ticks, (c.Range+1)*c.Ticks - c.Disparity, (c.Range+1)*c.Ticks + c.Disparity, (c.Range + 2) * c.Ticks,
		last, last - c.Ticks, last - c.Disparity, last / c.Ticks * c.Ticks, last/c.Ticks*c.Ticks - c.Disparity} {
		l = append(l, near(n)...)
	}
	return l
}

// What follows tells each call by its promise's words, with numbers that have no greatest one, for chains that fit.

func whole(n int) *big.Int { return big.NewInt(int64(n)) }

// startByWords is where a slot begins, and whether that is above 2^40.
func startByWords(c api.Chain, slot int) (*big.Int, bool) {
	n := new(big.Int).Mul(whole(slot), whole(c.Ticks))
	return n, n.Cmp(whole(last)) > 0
}

func opensByWords(c api.Chain, slot int) (int, api.Errno) {
	start, beyond := startByWords(c, slot)
	if slot < 0 {
		return 0, api.ErrArg
	}
	if beyond {
		return 0, api.ErrLate
	}
	n := start.Sub(start, whole(c.Disparity))
	if n.Sign() < 0 {
		return 0, api.OK
	}
	return int(n.Int64()), api.OK
}

func closesByWords(c api.Chain, slot int) (int, api.Errno) {
	_, beyond := startByWords(c, slot)
	if slot < 0 {
		return 0, api.ErrArg
	}
	if beyond {
		return 0, api.ErrLate
	}
	n := new(big.Int).Add(whole(slot), whole(c.Range+1))
	n.Mul(n, whole(c.Ticks))
	n.Add(n, whole(c.Disparity-1))
	if n.Cmp(whole(last)) > 0 {
		return last, api.OK
	}
	return int(n.Int64()), api.OK
}

func standByWords(c api.Chain, tick, slot int) (int, api.Errno) {
	if tick < 0 || tick > last || slot < 0 {
		return 0, api.ErrArg
	}
	opens, e := opensByWords(c, slot)
	closes, _ := closesByWords(c, slot)
	if e == api.ErrLate || tick < opens {
		return 0, api.OK
	}
	if tick > closes {
		return 2, api.OK
	}
	return 1, api.OK
}

// spanByWords looks at all slots that are not far from the tick's own.
func spanByWords(c api.Chain, tick int) (low, high int, e api.Errno) {
	if tick < 0 || tick > last {
		return 0, 0, api.ErrArg
	}
	low, high = -1, -1
	for slot := max(0, tick/c.Ticks-70); slot <= tick/c.Ticks+5; slot++ {
		if s, _ := standByWords(c, tick, slot); s == 1 {
			if low < 0 {
				low = slot
			}
			high = slot
		}
	}
	return low, high, api.OK
}

func mustStand(t *testing.T, c api.Chain, tick, slot int) int {
	t.Helper()
	s, e := Stand(c, tick, slot)
	if e != api.OK {
		t.Fatalf("Stand of tick %d, slot %d, %+v: error %d", tick, slot, c, e)
	}
	return s
}

func mustSpan(t *testing.T, c api.Chain, tick int) (low, high int) {
	t.Helper()
	low, high, e := Span(c, tick)
	if e != api.OK {
		t.Fatalf("Span of tick %d, %+v: error %d", tick, c, e)
	}
	return low, high
}

// bound is Opens or Closes, and what is to be answered.
type bound struct {
	name   string
	do     func(api.Chain, int) (int, api.Errno)
	byWord func(api.Chain, int) (int, api.Errno)
}

func bounds() []bound {
	return []bound{{"Opens", Opens, opensByWords}, {"Closes", Closes, closesByWords}}
}

// L1.

func TestKnownBounds(t *testing.T) {
	for _, x := range []struct {
		c                   api.Chain
		slot, opens, closes int
		e                   api.Errno
	}{
		{chainOf(10, 2, 3), 0, 0, 41, api.OK},
		{chainOf(10, 2, 3), 1, 8, 51, api.OK},
		{chainOf(10, 2, 3), 4, 38, 81, api.OK},
		{chainOf(10, 0, 3), 0, 0, 39, api.OK},
		{chainOf(10, 0, 3), 4, 40, 79, api.OK},
		// As great a disparity as may be: slot 1 opens where slot 0 does.
		{chainOf(10, 10, 1), 0, 0, 29, api.OK},
		{chainOf(10, 10, 1), 1, 0, 39, api.OK},
		{chainOf(10, 10, 1), 2, 10, 49, api.OK},
		{chainOf(1, 0, 1), 0, 0, 1, api.OK},
		{chainOf(1, 1, 1), 0, 0, 2, api.OK},
		{chainOf(1000, 1000, 64), 3, 2000, 68999, api.OK},
		// 2^40 is 6 behind the beginning of the last slot of 10 ticks.
		{chainOf(10, 2, 3), 109951162773, last - 48, last - 5, api.OK},
		{chainOf(10, 2, 3), 109951162774, last - 38, last, api.OK},
		{chainOf(10, 2, 3), 109951162777, last - 8, last, api.OK},
		{chainOf(10, 2, 3), 109951162778, 0, 0, api.ErrLate},
		// It is the start that counts, not that it opens ahead of 2^40.
		{chainOf(10, 10, 3), 109951162778, 0, 0, api.ErrLate},
		// The last slot of 512 ticks starts at the last tick.
		{chainOf(512, 3, 1), 1 << 31, last - 3, last, api.OK},
		{chainOf(512, 3, 1), 1<<31 + 1, 0, 0, api.ErrLate},
		{chainOf(1, 0, 1), last - 2, last - 2, last - 1, api.OK},
		{chainOf(1, 0, 1), last - 1, last - 1, last, api.OK},
		{chainOf(1, 0, 1), last, last, last, api.OK},
		{chainOf(1, 0, 1), last + 1, 0, 0, api.ErrLate},
		// By 512 these are 0 and 512, modulo 2^64.
		{chainOf(512, 3, 1), 1 << 55, 0, 0, api.ErrLate},
		{chainOf(512, 3, 1), 1<<55 + 1, 0, 0, api.ErrLate},
		{chainOf(10, 2, 3), math.MaxInt, 0, 0, api.ErrLate},
		{chainOf(10, 2, 3), -1, 0, 0, api.ErrArg},
		{chainOf(10, 2, 3), math.MinInt, 0, 0, api.ErrArg},
	} {
		if n, e := Opens(x.c, x.slot); n != x.opens || e != x.e {
			t.Errorf("Opens of %d, %+v: %d, error %d; asked for: %d, error %d", x.slot, x.c, n, e, x.opens, x.e)
		}
		if n, e := Closes(x.c, x.slot); n != x.closes || e != x.e {
			t.Errorf("Closes of %d, %+v: %d, error %d; asked for: %d, error %d", x.slot, x.c, n, e, x.closes, x.e)
		}
	}
}

func TestBoundsByWords(t *testing.T) {
	for _, f := range bounds() {
		for _, c := range someChains() {
			for _, slot := range slotEdges(c) {
				n, e := f.do(c, slot)
				if want, g := f.byWord(c, slot); n != want || e != g {
					t.Errorf("%s of %d, %+v: %d, error %d; asked for: %d, error %d", f.name, slot, c, n, e, want, g)
				}
			}
		}
	}
}

func TestBoundsOfManyByWords(t *testing.T) {
	r := rand.New(rand.NewSource(12))
	for range 20000 {
		ticks := 1 + r.Intn(1000)
		c := chainOf(ticks, r.Intn(ticks+1), 1+r.Intn(64))
		slot := []int{r.Intn(5), r.Intn(last/ticks + 1), last/ticks - r.Intn(70), last/ticks + 1 + r.Intn(5), r.Int()}[r.Intn(5)]
		for _, f := range bounds() {
			n, e := f.do(c, slot)
			if want, g := f.byWord(c, slot); n != want || e != g {
				t.Fatalf("%s of %d, %+v: %d, error %d; asked for: %d, error %d", f.name, slot, c, n, e, want, g)
			}
		}
	}
}

func TestNothingIsToldOfAChainThatDoesNotFit(t *testing.T) {
	// Also where the slot or the tick is wrong or too late.
	for _, c := range wrongChains() {
		for _, n := range []int{math.MinInt, -1, 0, 1, 38, last, last + 1, 1 << 55, math.MaxInt} {
			for _, f := range bounds() {
				if got, e := f.do(c, n); got != 0 || e != api.ErrArg {
					t.Errorf("%s of %d, %+v: %d, error %d", f.name, n, c, got, e)
				}
			}
			for _, slot := range []int{-1, 0, 1, last + 1, math.MaxInt} {
				if got, e := Stand(c, n, slot); got != 0 || e != api.ErrArg {
					t.Errorf("Stand of tick %d, slot %d, %+v: %d, error %d", n, slot, c, got, e)
				}
			}
			if low, high, e := Span(c, n); low != 0 || high != 0 || e != api.ErrArg {
				t.Errorf("Span of %d, %+v: %d, %d, error %d", n, c, low, high, e)
			}
		}
	}
}

// L2.

func TestKnownStands(t *testing.T) {
	for _, x := range []struct {
		c                 api.Chain
		tick, slot, stand int
		e                 api.Errno
	}{
		{chainOf(10, 2, 3), 0, 0, api.Ripe, api.OK},
		{chainOf(10, 2, 3), 37, 4, api.Early, api.OK},
		{chainOf(10, 2, 3), 38, 4, api.Ripe, api.OK},
		{chainOf(10, 2, 3), 81, 4, api.Ripe, api.OK},
		{chainOf(10, 2, 3), 82, 4, api.Late, api.OK},
		{chainOf(10, 2, 3), last, 4, api.Late, api.OK},
		{chainOf(10, 10, 3), 0, 1, api.Ripe, api.OK},
		{chainOf(10, 10, 3), 0, 2, api.Early, api.OK},
		{chainOf(1, 0, 1), 1, 0, api.Ripe, api.OK},
		{chainOf(1, 0, 1), 2, 0, api.Late, api.OK},
		// What would close behind the last tick is not Late.
		{chainOf(10, 2, 3), last, 109951162773, api.Late, api.OK},
		{chainOf(10, 2, 3), last, 109951162774, api.Ripe, api.OK},
		{chainOf(10, 2, 3), last, 109951162777, api.Ripe, api.OK},
		{chainOf(10, 2, 3), last - 9, 109951162777, api.Early, api.OK},
		{chainOf(512, 0, 1), last, 1 << 31, api.Ripe, api.OK},
		{chainOf(512, 0, 1), last - 1, 1 << 31, api.Early, api.OK},
		// What starts at no tick is Early at all ticks, and no error.
		{chainOf(10, 2, 3), last, 109951162778, api.Early, api.OK},
		{chainOf(10, 10, 3), last, 109951162778, api.Early, api.OK},
		{chainOf(10, 2, 3), 0, math.MaxInt, api.Early, api.OK},
		{chainOf(10, 2, 3), last, math.MaxInt, api.Early, api.OK},
		{chainOf(512, 2, 3), last, 1 << 55, api.Early, api.OK},
		{chainOf(10, 2, 3), -1, 0, 0, api.ErrArg},
		{chainOf(10, 2, 3), last + 1, 4, 0, api.ErrArg},
		{chainOf(10, 2, 3), math.MaxInt, 4, 0, api.ErrArg},
		{chainOf(10, 2, 3), math.MinInt, 4, 0, api.ErrArg},
		{chainOf(10, 2, 3), 0, -1, 0, api.ErrArg},
		{chainOf(10, 2, 3), last, math.MinInt, 0, api.ErrArg},
		{chainOf(10, 2, 3), -1, -1, 0, api.ErrArg},
		{chainOf(10, 2, 3), -1, math.MaxInt, 0, api.ErrArg},
		{chainOf(10, 2, 3), last + 1, math.MaxInt, 0, api.ErrArg},
	} {
		if s, e := Stand(x.c, x.tick, x.slot); s != x.stand || e != x.e {
			t.Errorf("Stand of tick %d, slot %d, %+v: %d, error %d; asked for: %d, error %d", x.tick, x.slot, x.c, s, e, x.stand, x.e)
		}
	}
}

func TestStandByWords(t *testing.T) {
	for _, c := range someChains() {
		for _, tick := range tickEdges(c) {
			for _, slot := range append(slotEdges(c), near(tick/c.Ticks)...) {
				s, e := Stand(c, tick, slot)
				if want, f := standByWords(c, tick, slot); s != want || e != f {
					t.Fatalf("Stand of tick %d, slot %d, %+v: %d, error %d; asked for: %d, error %d", tick, slot, c, s, e, want, f)
				}
			}
		}
	}
}

// L3.

func TestKnownSpans(t *testing.T) {
	for _, x := range []struct {
		c               api.Chain
		tick, low, high int
		e               api.Errno
	}{
		{chainOf(10, 2, 3), 0, 0, 0, api.OK},
		{chainOf(10, 2, 3), 7, 0, 0, api.OK},
		{chainOf(10, 2, 3), 8, 0, 1, api.OK},
		{chainOf(10, 2, 3), 37, 0, 3, api.OK},
		{chainOf(10, 2, 3), 38, 0, 4, api.OK},
		{chainOf(10, 2, 3), 41, 0, 4, api.OK},
		{chainOf(10, 2, 3), 42, 1, 4, api.OK},
		{chainOf(10, 0, 3), 39, 0, 3, api.OK},
		{chainOf(10, 0, 3), 40, 1, 4, api.OK},
		{chainOf(10, 10, 1), 0, 0, 1, api.OK},
		{chainOf(10, 10, 1), 30, 1, 4, api.OK},
		{chainOf(1, 0, 1), 5, 4, 5, api.OK},
		{chainOf(1, 1, 1), 5, 3, 6, api.OK},
		// The slot that would open at 2^40 - 4 starts behind 2^40, and never opens.
		{chainOf(10, 8, 3), last, 109951162773, 109951162777, api.OK},
		{chainOf(10, 10, 3), last, 109951162773, 109951162777, api.OK},
		{chainOf(10, 2, 3), last - 5, 109951162773, 109951162777, api.OK},
		{chainOf(10, 2, 3), last - 4, 109951162774, 109951162777, api.OK},
		{chainOf(512, 3, 1), last - 4, 1<<31 - 2, 1<<31 - 1, api.OK},
		{chainOf(512, 3, 1), last - 3, 1<<31 - 2, 1 << 31, api.OK},
		{chainOf(1, 1, 1), last, last - 2, last, api.OK},
		{chainOf(10, 2, 3), -1, 0, 0, api.ErrArg},
		{chainOf(10, 2, 3), last + 1, 0, 0, api.ErrArg},
		{chainOf(10, 2, 3), math.MaxInt, 0, 0, api.ErrArg},
		{chainOf(10, 2, 3), math.MinInt, 0, 0, api.ErrArg},
	} {
		if low, high, e := Span(x.c, x.tick); low != x.low || high != x.high || e != x.e {
			t.Errorf("Span of %d, %+v: %d, %d, error %d; asked for: %d, %d, error %d", x.tick, x.c, low, high, e, x.low, x.high, x.e)
		}
	}
}

func TestSpanByWords(t *testing.T) {
	for _, c := range someChains() {
		for _, tick := range tickEdges(c) {
			low, high, e := Span(c, tick)
			if a, b, f := spanByWords(c, tick); low != a || high != b || e != f {
				t.Fatalf("Span of %d, %+v: %d, %d, error %d; asked for: %d, %d, error %d", tick, c, low, high, e, a, b, f)
			}
		}
	}
}

func TestSpanOfManyByWords(t *testing.T) {
	r := rand.New(rand.NewSource(3))
	for range 5000 {
		ticks := 1 + r.Intn(1000)
		c := chainOf(ticks, r.Intn(ticks+1), 1+r.Intn(64))
		tick := []int{r.Intn(70 * ticks), r.Intn(last + 1), last - r.Intn(70*ticks)}[r.Intn(3)]
		low, high := mustSpan(t, c, tick)
		if a, b, _ := spanByWords(c, tick); low != a || high != b {
			t.Fatalf("Span of %d, %+v: %d, %d; asked for: %d, %d", tick, c, low, high, a, b)
		}
	}
}

// L4.

func TestASlotIsRipeJustIfItIsInTheSpan(t *testing.T) {
	most := 0
	for _, c := range someChains() {
		for _, tick := range tickEdges(c) {
			if tick < 0 || tick > last {
				continue
			}
			low, high := mustSpan(t, c, tick)
			for slot := max(0, low-5); slot <= high+5; slot++ {
				want := low <= slot && slot <= high
				if ripe := mustStand(t, c, tick, slot) == api.Ripe; ripe != want {
					t.Fatalf("tick %d, slot %d, %+v: Ripe is %v, from %d to %d", tick, slot, c, ripe, low, high)
				}
			}
			if own := tick / c.Ticks; own < low || own > high || mustStand(t, c, tick, own) != api.Ripe {
				t.Fatalf("tick %d, %+v: its own slot is not Ripe", tick, c)
			}
			if many := high - low + 1; many > c.Range+3 {
				t.Fatalf("tick %d, %+v: %d slots are Ripe", tick, c, many)
			}
			most = max(most, high-low+1-c.Range)
		}
	}
	if most != 3 {
		t.Errorf("too little is tried: Range and %d slots are Ripe at most", most)
	}
}

func TestASlotNeverGoesBack(t *testing.T) {
	for _, c := range []api.Chain{chainOf(1, 0, 1), chainOf(1, 1, 1), chainOf(5, 0, 1), chainOf(5, 2, 3), chainOf(5, 5, 2), chainOf(7, 6, 9)} {
		for _, from := range []int{0, 1000003, last - 200} {
			for slot := max(0, from/c.Ticks-15); slot <= from/c.Ticks+250; slot++ {
				neverGoesBack(t, c, slot, from, from+200)
			}
		}
	}
}

// neverGoesBack fails unless a slot is Early ahead of Opens, Ripe from it to Closes, and then Late.
func neverGoesBack(t *testing.T, c api.Chain, slot, from, to int) {
	t.Helper()
	opens, e := Opens(c, slot)
	closes, f := Closes(c, slot)
	if e != f {
		t.Fatalf("slot %d, %+v: errors %d and %d", slot, c, e, f)
	}
	before := api.Early
	for tick := from; tick <= to; tick++ {
		s := mustStand(t, c, tick, slot)
		if s < before {
			t.Fatalf("tick %d, slot %d, %+v: %d, and was %d", tick, slot, c, s, before)
		}
		ripe := e == api.OK && opens <= tick && tick <= closes
		if ripe != (s == api.Ripe) || e == api.ErrLate && s != api.Early {
			t.Fatalf("tick %d, slot %d, %+v: %d, open from %d to %d", tick, slot, c, s, opens, closes)
		}
		before = s
	}
}

func TestASlotIsRipeFromOpensToCloses(t *testing.T) {
	for _, c := range someChains() {
		for _, slot := range slotEdges(c) {
			opens, e := Opens(c, slot)
			closes, _ := Closes(c, slot)
			if e != api.OK {
				continue
			}
			if opens > closes || opens < 0 || closes > last {
				t.Fatalf("slot %d, %+v: open from %d to %d", slot, c, opens, closes)
			}
			for _, tick := range []int{opens, closes} {
				if s := mustStand(t, c, tick, slot); s != api.Ripe {
					t.Fatalf("tick %d, slot %d, %+v: %d", tick, slot, c, s)
				}
			}
			if opens > 0 && mustStand(t, c, opens-1, slot) != api.Early {
				t.Fatalf("slot %d, %+v: not Early ahead of %d", slot, c, opens)
			}
			if closes < last && mustStand(t, c, closes+1, slot) != api.Late {
				t.Fatalf("slot %d, %+v: not Late behind %d", slot, c, closes)
			}
		}
	}
}

// Chapter 16's theorem leans on this: what waits for Opens does not wait there again.

func TestWhatWaitsIsRipeAtItsOpening(t *testing.T) {
	for _, c := range someChains() {
		for _, slot := range slotEdges(c) {
			at, e := Opens(c, slot)
			if e == api.OK && mustStand(t, c, at, slot) == api.Early {
				t.Fatalf("slot %d, %+v: Early at its opening, %d", slot, c, at)
			}
		}
	}
}

// R4.

func TestOnlyTicksDisparityAndRangeCount(t *testing.T) {
	a := chainOf(10, 3, 4)
	b := a
	b.Validators, b.Slots, b.Committees, b.Subnets, b.Rounds, b.Aggregators, b.Seed = 1024, 32, 8, 64, 90, 16, math.MaxUint64
	for tick := range 300 {
		p, q := mustSpan(t, a, tick)
		if r, s := mustSpan(t, b, tick); p != r || q != s {
			t.Errorf("Span of %d: %d, %d and %d, %d", tick, p, q, r, s)
		}
		if m, n := mustStand(t, a, tick, 11), mustStand(t, b, tick, 11); m != n {
			t.Errorf("Stand of %d: %d and %d", tick, m, n)
		}
	}
}

func TestTheSameForTheSame(t *testing.T) {
	for _, c := range append(someChains(), wrongChains()...) {
		for _, n := range []int{-1, 0, 77, last, last + 1} {
			for _, f := range bounds() {
				a, e := f.do(c, n)
				if b, g := f.do(c, n); a != b || e != g {
					t.Errorf("%s of %d, %+v", f.name, n, c)
				}
			}
			a, e := Stand(c, n, 7)
			b, f := Stand(c, n, 7)
			p, q, g := Span(c, n)
			r, s, h := Span(c, n)
			if a != b || e != f || p != r || q != s || g != h {
				t.Errorf("Stand or Span of %d, %+v", n, c)
			}
		}
	}
}

// The chapter's example.

func TestExample(t *testing.T) {
	c := chainOf(10, 2, 3)
	if n, e := Opens(c, 4); n != 38 || e != api.OK {
		t.Error(n, e)
	}
	if n, e := Closes(c, 4); n != 81 || e != api.OK {
		t.Error(n, e)
	}
	if low, high := mustSpan(t, c, 38); low != 0 || high != 4 {
		t.Error(low, high)
	}
	if low, high := mustSpan(t, c, 42); low != 1 || high != 4 {
		t.Error(low, high)
	}
}
