package clock

import (
	"math"
	"math/big"
	"math/rand"
	"testing"

	"mootbell/api"
)

const last = 1 << 40

func greatest() api.Chain {
	return api.Chain{Validators: 1024, Slots: 32, Committees: 8, Subnets: 64, Ticks: 1000, Disparity: 1000, Range: 64, Rounds: 90, Aggregators: 16, Seed: math.MaxUint64}
}

func least() api.Chain {
	return api.Chain{Validators: 1, Slots: 1, Committees: 1, Subnets: 1, Ticks: 1, Range: 1, Aggregators: 1}
}

// of is a chain that fits, of so many ticks a slot and slots an epoch.
func of(ticks, slots int) api.Chain {
	c := least()
	c.Ticks, c.Slots = ticks, slots
	return c
}

// field is one of a chain's numbers, and the chapter's bounds of it; Disparity's upper one is Ticks.
type field struct {
	name        string
	at          func(*api.Chain) *int
	least, most int
}

func fields() []field {
	return []field{
		{"Validators", func(c *api.Chain) *int { return &c.Validators }, 1, 1024},
		{"Slots", func(c *api.Chain) *int { return &c.Slots }, 1, 32},
		{"Committees", func(c *api.Chain) *int { return &c.Committees }, 1, 8},
		{"Subnets", func(c *api.Chain) *int { return &c.Subnets }, 1, 64},
		{"Ticks", func(c *api.Chain) *int { return &c.Ticks }, 1, 1000},
		{"Range", func(c *api.Chain) *int { return &c.Range }, 1, 64},
		{"Rounds", func(c *api.Chain) *int { return &c.Rounds }, 0, 90},
		{"Aggregators", func(c *api.Chain) *int { return &c.Aggregators }, 1, 16},
	}
}

// fitsByWords follows the chapter's words one by one.
func fitsByWords(c api.Chain) bool {
	return 1 <= c.Validators && c.Validators <= 1024 &&
		1 <= c.Slots && c.Slots <= 32 &&
		1 <= c.Committees && c.Committees <= 8 &&
		1 <= c.Subnets && c.Subnets <= 64 &&
		1 <= c.Ticks && c.Ticks <= 1000 &&
		0 <= c.Disparity && c.Disparity <= c.Ticks &&
		1 <= c.Range && c.Range <= 64 &&
		0 <= c.Rounds && c.Rounds <= 90 &&
		1 <= c.Aggregators && c.Aggregators <= 16
}

// wrongChains is chains that do not fit, each by one of its numbers alone.
func wrongChains() []api.Chain {
	var l []api.Chain
	for _, f := range fields() {
		for _, n := range []int{math.MinInt, -1, f.least - 1, f.most + 1, math.MaxInt} {
			c := greatest()
			// Else Disparity would be what is wrong, where Ticks are few.
			c.Disparity = 0
			*f.at(&c) = n
			l = append(l, c)
		}
	}
	for _, n := range []int{math.MinInt, -1, 11, 1000, 1001, math.MaxInt} {
		c := of(10, 4)
		c.Disparity = n
		l = append(l, c)
	}
	return l
}

// call is one of those that answer a number, of one number; Forward is two of them.
type call struct {
	name   string
	do     func(api.Chain, int) (int, api.Errno)
	byWord func(api.Chain, int) (int, api.Errno)
}

func calls() []call {
	return []call{
		{"SlotOf", SlotOf, slotByWords},
		{"Start", Start, startByWords},
		{"EpochOf", EpochOf, epochByWords},
		{"First", First, firstByWords},
		{"Forward from it by 5",
			func(c api.Chain, n int) (int, api.Errno) { return Forward(c, n, 5) },
			func(c api.Chain, n int) (int, api.Errno) { return forwardByWords(c, n, 5) }},
		{"Forward by it from 5",
			func(c api.Chain, n int) (int, api.Errno) { return Forward(c, 5, n) },
			func(c api.Chain, n int) (int, api.Errno) { return forwardByWords(c, 5, n) }},
	}
}

// What follows tells each call by its promise's words, with numbers that have no greatest one.

func whole(n int) *big.Int { return big.NewInt(int64(n)) }

func isNoTick(n *big.Int) bool { return n.Sign() < 0 || n.Cmp(whole(last)) > 0 }

func slotByWords(c api.Chain, tick int) (int, api.Errno) {
	if !fitsByWords(c) || isNoTick(whole(tick)) {
		return 0, api.ErrArg
	}
	return int(new(big.Int).Quo(whole(tick), whole(c.Ticks)).Int64()), api.OK
}

func startByWords(c api.Chain, slot int) (int, api.Errno) {
	if !fitsByWords(c) || slot < 0 {
		return 0, api.ErrArg
	}
	n := new(big.Int).Mul(whole(slot), whole(c.Ticks))
	if isNoTick(n) {
		return 0, api.ErrLate
	}
	return int(n.Int64()), api.OK
}

func epochByWords(c api.Chain, slot int) (int, api.Errno) {
	if !fitsByWords(c) || slot < 0 {
		return 0, api.ErrArg
	}
	return int(new(big.Int).Quo(whole(slot), whole(c.Slots)).Int64()), api.OK
}

func firstByWords(c api.Chain, epoch int) (int, api.Errno) {
	if !fitsByWords(c) || epoch < 0 {
		return 0, api.ErrArg
	}
	slot := new(big.Int).Mul(whole(epoch), whole(c.Slots))
	if isNoTick(new(big.Int).Mul(slot, whole(c.Ticks))) {
		return 0, api.ErrLate
	}
	return int(slot.Int64()), api.OK
}

func forwardByWords(c api.Chain, tick, by int) (int, api.Errno) {
	if !fitsByWords(c) || isNoTick(whole(tick)) || by < 0 {
		return 0, api.ErrArg
	}
	n := new(big.Int).Add(whole(tick), whole(by))
	if isNoTick(n) {
		return 0, api.ErrLate
	}
	return int(n.Int64()), api.OK
}

// row is a number that is asked, and what is to be answered.
type row struct {
	n    int
	want int
	e    api.Errno
}

func tryRows(t *testing.T, name string, do func(int) (int, api.Errno), rows []row) {
	t.Helper()
	for _, x := range rows {
		if got, e := do(x.n); got != x.want || e != x.e {
			t.Errorf("%s of %d: %d, error %d; asked for: %d, error %d", name, x.n, got, e, x.want, x.e)
		}
	}
}

// near is numbers about n.
func near(n int) []int { return []int{n - 2, n - 1, n, n + 1, n + 2} }

// edges is numbers about which something changes for a chain, and some that are far off.
func edges(c api.Chain) []int {
	l := []int{math.MinInt, math.MinInt + 1, -1 << 40, -1000, math.MaxInt - 1, math.MaxInt, math.MaxInt / 1000, 1 << 53, 1 << 62}
	for _, n := range []int{0, c.Ticks, c.Slots, c.Ticks * c.Slots, last, last / c.Ticks, last / c.Slots, last / (c.Ticks * c.Slots), last - 5} {
		l = append(l, near(n)...)
	}
	// Products of these are small or below 0, where they are taken modulo 2^64.
	for _, each := range []int{c.Ticks, c.Slots, c.Ticks * c.Slots} {
		l = append(l, near(math.MaxInt/each)...)
		l = append(l, int(math.MaxUint64/uint64(each)>>1)+1)
	}
	return l
}

// H1.

func TestFitsAtTheEdges(t *testing.T) {
	if !Fits(greatest()) || !Fits(least()) {
		t.Error("the greatest or the least chain does not fit")
	}
	if Fits(api.Chain{}) {
		t.Error("the empty chain fits")
	}
	for _, f := range fields() {
		for _, n := range []int{f.least, f.least + 1, (f.least + f.most) / 2, f.most - 1, f.most} {
			c := greatest()
			c.Disparity = 0
			*f.at(&c) = n
			if !Fits(c) {
				t.Errorf("%s %d does not fit", f.name, n)
			}
		}
	}
	for _, c := range wrongChains() {
		if Fits(c) {
			t.Errorf("%+v fits", c)
		}
	}
}

func TestFitsHoldsDisparityAgainstTicks(t *testing.T) {
	for _, ticks := range []int{1, 2, 10, 999, 1000} {
		for disparity := -2; disparity <= 1002; disparity++ {
			c := of(ticks, 4)
			c.Disparity = disparity
			if want := disparity >= 0 && disparity <= ticks; Fits(c) != want {
				t.Errorf("Disparity %d of %d Ticks: %v", disparity, ticks, !want)
			}
		}
	}
	// Both too great: that Disparity is not more than Ticks does not help.
	c := of(1001, 4)
	c.Disparity = 1001
	if Fits(c) {
		t.Error("1001 Ticks fit")
	}
}

func TestFitsAtAnySeed(t *testing.T) {
	for _, seed := range []uint64{0, 1, 1 << 63, math.MaxUint64} {
		c := of(10, 4)
		c.Seed = seed
		if !Fits(c) {
			t.Errorf("Seed %d does not fit", seed)
		}
	}
}

func TestFitsByWords(t *testing.T) {
	r := rand.New(rand.NewSource(8))
	fit, wrong := 0, 0
	for range 20000 {
		c := greatest()
		c.Seed = r.Uint64()
		for _, f := range fields() {
			// Mostly right, else hardly any chain would fit.
			*f.at(&c) = f.least + r.Intn(f.most-f.least+1)
			if r.Intn(20) == 0 {
				*f.at(&c) = []int{f.least - 1, f.most + 1, -f.most, r.Int()}[r.Intn(4)]
			}
		}
		c.Disparity = r.Intn(1002) - 1
		if r.Intn(2) == 0 {
			c.Disparity = c.Ticks + r.Intn(3) - 1
		}
		want := fitsByWords(c)
		if Fits(c) != want {
			t.Fatalf("%+v: %v", c, !want)
		}
		if want {
			fit++
		} else {
			wrong++
		}
	}
	if fit < 2000 || wrong < 2000 {
		t.Errorf("too little is tried: %d fit, %d do not", fit, wrong)
	}
}

func TestNothingIsToldOfAChainThatDoesNotFit(t *testing.T) {
	// Also where the number is wrong or too late, or 0: a division by 0 Ticks or Slots would panic.
	for _, c := range wrongChains() {
		for _, f := range calls() {
			for _, n := range []int{math.MinInt, -1, 0, 1, 39, last, last + 1, math.MaxInt} {
				if got, e := f.do(c, n); got != 0 || e != api.ErrArg {
					t.Errorf("%s of %d, %+v: %d, error %d", f.name, n, c, got, e)
				}
			}
		}
	}
}

func TestSlotOf(t *testing.T) {
	tryRows(t, "SlotOf, 10 ticks", func(n int) (int, api.Errno) { return SlotOf(of(10, 4), n) }, []row{
		{0, 0, api.OK}, {9, 0, api.OK}, {10, 1, api.OK}, {39, 3, api.OK}, {40, 4, api.OK},
		{last - 1, 109951162777, api.OK}, {last, 109951162777, api.OK}, {last + 1, 0, api.ErrArg},
		{math.MaxInt, 0, api.ErrArg}, {-1, 0, api.ErrArg}, {-10, 0, api.ErrArg}, {math.MinInt, 0, api.ErrArg},
	})
	tryRows(t, "SlotOf, 1 tick", func(n int) (int, api.Errno) { return SlotOf(of(1, 1), n) }, []row{
		{0, 0, api.OK}, {1, 1, api.OK}, {last, last, api.OK}, {last + 1, 0, api.ErrArg},
	})
}

func TestStart(t *testing.T) {
	tryRows(t, "Start, 10 ticks", func(n int) (int, api.Errno) { return Start(of(10, 4), n) }, []row{
		{0, 0, api.OK}, {1, 10, api.OK}, {3, 30, api.OK}, {109951162777, 1099511627770, api.OK},
		{109951162778, 0, api.ErrLate}, {last, 0, api.ErrLate}, {math.MaxInt, 0, api.ErrLate},
		{-1, 0, api.ErrArg}, {math.MinInt, 0, api.ErrArg},
	})
	tryRows(t, "Start, 1 tick", func(n int) (int, api.Errno) { return Start(of(1, 1), n) }, []row{
		{last, last, api.OK}, {last + 1, 0, api.ErrLate},
	})
	// The last tick is a slot's start just where Ticks divide it.
	tryRows(t, "Start, 512 ticks", func(n int) (int, api.Errno) { return Start(of(512, 4), n) }, []row{
		{1<<31 - 1, last - 512, api.OK}, {1 << 31, last, api.OK}, {1<<31 + 1, 0, api.ErrLate},
		// By 512 these are 0 and 512, modulo 2^64.
		{1 << 55, 0, api.ErrLate}, {1<<55 + 1, 0, api.ErrLate},
	})
}

// H2.

func TestEpochOf(t *testing.T) {
	// A slot may be any number from 0 on, also one that starts at no tick.
	tryRows(t, "EpochOf, 4 slots", func(n int) (int, api.Errno) { return EpochOf(of(10, 4), n) }, []row{
		{0, 0, api.OK}, {3, 0, api.OK}, {4, 1, api.OK}, {7, 1, api.OK}, {8, 2, api.OK},
		{last, 1 << 38, api.OK}, {last + 4, 1<<38 + 1, api.OK}, {math.MaxInt, math.MaxInt / 4, api.OK},
		{-1, 0, api.ErrArg}, {-4, 0, api.ErrArg}, {math.MinInt, 0, api.ErrArg},
	})
	tryRows(t, "EpochOf, 1 slot", func(n int) (int, api.Errno) { return EpochOf(of(10, 1), n) }, []row{
		{0, 0, api.OK}, {1, 1, api.OK}, {math.MaxInt, math.MaxInt, api.OK},
	})
}

func TestFirst(t *testing.T) {
	tryRows(t, "First, 10 ticks, 4 slots", func(n int) (int, api.Errno) { return First(of(10, 4), n) }, []row{
		{0, 0, api.OK}, {1, 4, api.OK}, {2, 8, api.OK},
		{27487790694, 109951162776, api.OK}, {27487790695, 0, api.ErrLate},
		{last / 4, 0, api.ErrLate}, {last/4 + 1, 0, api.ErrLate}, {last, 0, api.ErrLate}, {math.MaxInt, 0, api.ErrLate},
		{-1, 0, api.ErrArg}, {math.MinInt, 0, api.ErrArg},
	})
	tryRows(t, "First, 1 tick, 1 slot", func(n int) (int, api.Errno) { return First(of(1, 1), n) }, []row{
		{last, last, api.OK}, {last + 1, 0, api.ErrLate},
	})
	// The first slot of the last epoch starts at the last tick.
	tryRows(t, "First, 512 ticks, 32 slots", func(n int) (int, api.Errno) { return First(of(512, 32), n) }, []row{
		{1 << 26, 1 << 31, api.OK}, {1<<26 + 1, 0, api.ErrLate},
		// By 32, and by 512 too, these are 0 modulo 2^64.
		{1 << 59, 0, api.ErrLate}, {1 << 50, 0, api.ErrLate}, {1<<50 + 1, 0, api.ErrLate},
	})
}

// H3.

func TestForward(t *testing.T) {
	for _, x := range []struct {
		tick, by, want int
		e              api.Errno
	}{
		{0, 0, 0, api.OK}, {5, 7, 12, api.OK}, {39, 1, 40, api.OK}, {last, 0, last, api.OK},
		{0, last, last, api.OK}, {1, last - 1, last, api.OK}, {last - 1, 1, last, api.OK}, {last / 2, last / 2, last, api.OK},
		{1, last, 0, api.ErrLate}, {last, 1, 0, api.ErrLate}, {0, last + 1, 0, api.ErrLate},
		{0, math.MaxInt, 0, api.ErrLate}, {1, math.MaxInt, 0, api.ErrLate}, {last, math.MaxInt, 0, api.ErrLate},
		{-1, 0, 0, api.ErrArg}, {-1, 1, 0, api.ErrArg}, {-5, 7, 0, api.ErrArg}, {math.MinInt, math.MaxInt, 0, api.ErrArg},
		{last + 1, 0, 0, api.ErrArg}, {math.MaxInt, 0, 0, api.ErrArg}, {last + 1, -1, 0, api.ErrArg},
		{0, -1, 0, api.ErrArg}, {5, -5, 0, api.ErrArg}, {last, -1, 0, api.ErrArg}, {5, math.MinInt, 0, api.ErrArg},
		// Both errors apply: what may not be is named first.
		{-1, math.MaxInt, 0, api.ErrArg}, {last + 1, 1, 0, api.ErrArg}, {math.MaxInt, math.MaxInt, 0, api.ErrArg},
	} {
		for _, c := range []api.Chain{least(), of(10, 4), greatest()} {
			if got, e := Forward(c, x.tick, x.by); got != x.want || e != x.e {
				t.Errorf("Forward from %d by %d: %d, error %d; asked for: %d, error %d", x.tick, x.by, got, e, x.want, x.e)
			}
		}
	}
}

func TestForwardByWords(t *testing.T) {
	r := rand.New(rand.NewSource(3))
	told := map[api.Errno]int{}
	for range 20000 {
		c := of(1+r.Intn(1000), 1+r.Intn(32))
		tick, by := r.Intn(last+last/4)-last/8, r.Intn(last)-last/8
		if r.Intn(4) == 0 {
			by = last - tick + r.Intn(3) - 1
		}
		want, f := forwardByWords(c, tick, by)
		if got, e := Forward(c, tick, by); got != want || e != f {
			t.Fatalf("Forward from %d by %d: %d, error %d; asked for: %d, error %d", tick, by, got, e, want, f)
		}
		told[f]++
	}
	if told[api.OK] < 1000 || told[api.ErrArg] < 1000 || told[api.ErrLate] < 1000 {
		t.Errorf("too little is tried: %v", told)
	}
}

// H4.

func TestSlotOfUndoesStart(t *testing.T) {
	r := rand.New(rand.NewSource(4))
	for range 5000 {
		c := of(1+r.Intn(1000), 1+r.Intn(32))
		most := last / c.Ticks
		for _, slot := range []int{0, 1, r.Intn(most + 1), most - 1, most} {
			start, e := Start(c, slot)
			back, f := SlotOf(c, start)
			if e != api.OK || f != api.OK || back != slot {
				t.Fatalf("slot %d of %d ticks: starts at %d, error %d; that is of slot %d, error %d", slot, c.Ticks, start, e, back, f)
			}
		}
	}
}

func TestEpochOfUndoesFirst(t *testing.T) {
	r := rand.New(rand.NewSource(5))
	for range 5000 {
		c := of(1+r.Intn(1000), 1+r.Intn(32))
		most := last / (c.Ticks * c.Slots)
		for _, epoch := range []int{0, 1, r.Intn(most + 1), most - 1, most} {
			first, e := First(c, epoch)
			back, f := EpochOf(c, first)
			if e != api.OK || f != api.OK || back != epoch {
				t.Fatalf("epoch %d of %+v: first slot %d, error %d; that is of epoch %d, error %d", epoch, c, first, e, back, f)
			}
			if _, e := Start(c, first); e != api.OK {
				t.Fatalf("epoch %d of %+v: first slot %d starts at no tick", epoch, c, first)
			}
		}
	}
}

func TestEachTickIsItsSlots(t *testing.T) {
	r := rand.New(rand.NewSource(6))
	late := 0
	for range 5000 {
		c := of(1+r.Intn(1000), 1+r.Intn(32))
		for _, tick := range []int{0, c.Ticks - 1, c.Ticks, r.Intn(last + 1), last - r.Intn(c.Ticks), last} {
			slot, e := SlotOf(c, tick)
			if e != api.OK {
				t.Fatalf("tick %d of %d: error %d", tick, c.Ticks, e)
			}
			if start, e := Start(c, slot); e != api.OK || start > tick {
				t.Fatalf("tick %d of %d: its slot %d starts at %d, error %d", tick, c.Ticks, slot, start, e)
			}
			next, e := Start(c, slot+1)
			if e == api.ErrLate {
				// No tick is left for it to start at.
				late++
				continue
			}
			if e != api.OK || next <= tick {
				t.Fatalf("tick %d of %d: the slot behind its own, %d, starts at %d, error %d", tick, c.Ticks, slot, next, e)
			}
		}
	}
	if late < 1000 || late > 20000 {
		t.Errorf("too little is tried: %d slots were the last one", late)
	}
}

func TestNumbersAsGreatAsTheyAre(t *testing.T) {
	r := rand.New(rand.NewSource(7))
	told := map[api.Errno]int{}
	for _, c := range []api.Chain{least(), greatest(), of(10, 4), of(12, 5), of(512, 32), of(1, 32), of(1000, 1), of(7, 3), of(999, 31)} {
		l := edges(c)
		for range 3000 {
			// Of any length, not nearly all of 62 bits.
			l = append(l, r.Int()>>r.Intn(63))
		}
		for _, f := range calls() {
			for _, n := range l {
				want, e := f.byWord(c, n)
				if got, g := f.do(c, n); got != want || g != e {
					t.Errorf("%s of %d, %d ticks, %d slots: %d, error %d; asked for: %d, error %d", f.name, n, c.Ticks, c.Slots, got, g, want, e)
				}
				told[e]++
			}
		}
	}
	if told[api.OK] < 1000 || told[api.ErrArg] < 1000 || told[api.ErrLate] < 1000 {
		t.Errorf("too little is tried: %v", told)
	}
}

// R1 and R4.

func TestTheSameForTheSame(t *testing.T) {
	for _, c := range append(wrongChains(), least(), greatest(), of(10, 4)) {
		for _, f := range calls() {
			for _, n := range []int{math.MinInt, -1, 0, 39, last, last + 1, math.MaxInt} {
				a, e := f.do(c, n)
				b, g := f.do(c, n)
				if a != b || e != g {
					t.Errorf("%s of %d: %d, error %d, and then %d, error %d", f.name, n, a, e, b, g)
				}
				if e != api.OK && a != 0 {
					t.Errorf("%s of %d: %d beside error %d", f.name, n, a, e)
				}
			}
		}
	}
}

func TestOnlyTicksAndSlotsCount(t *testing.T) {
	few, many := of(10, 4), greatest()
	many.Ticks, many.Slots, many.Disparity = 10, 4, 10
	for _, f := range calls() {
		for _, n := range edges(few) {
			a, e := f.do(few, n)
			b, g := f.do(many, n)
			if a != b || e != g {
				t.Errorf("%s of %d: %d, error %d, and by other numbers of the chain %d, error %d", f.name, n, a, e, b, g)
			}
		}
	}
}

// The chapter's example.

func TestExample(t *testing.T) {
	c := of(10, 4)
	slot, e := SlotOf(c, 39)
	start, f := Start(c, 3)
	epoch, g := EpochOf(c, 3)
	first, h := First(c, 2)
	if slot != 3 || start != 30 || epoch != 0 || first != 8 || e != api.OK || f != api.OK || g != api.OK || h != api.OK {
		t.Error(slot, e, start, f, epoch, g, first, h)
	}
}
