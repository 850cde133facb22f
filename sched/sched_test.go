package sched

import (
	"encoding/binary"
	"hash/fnv"
	"math"
	"math/rand"
	"slices"
	"testing"

	"mootbell/api"
)

const (
	last = 1 << 40 // epoch
	high = 1 << 63
)

var nodes = []uint64{0, 1, 3, 5, 6, 255, 256, 257, 12345, high - 1, high, math.MaxUint64 - 1, math.MaxUint64}

// chainOf is a chain of so many subnets, and rounds.
func chainOf(subnets, rounds int) api.Chain {
	return api.Chain{Validators: 10, Slots: 2, Committees: 2, Subnets: subnets, Ticks: 5, Range: 1, Rounds: rounds, Aggregators: 2, Seed: 1}
}

func someChains() []api.Chain {
	return []api.Chain{
		chainOf(1, 0), chainOf(1, 90), chainOf(2, 3), chainOf(4, 0), chainOf(7, 20), chainOf(10, 10), chainOf(63, 90), chainOf(64, 0), chainOf(64, 90),
		{Validators: 1024, Slots: 32, Committees: 8, Subnets: 64, Ticks: 1000, Disparity: 1000, Range: 64, Rounds: 90, Aggregators: 16, Seed: math.MaxUint64},
	}
}

// wrongChains is chains that do not fit, each by one of its numbers alone.
func wrongChains() []api.Chain {
	var l []api.Chain
	for _, f := range []struct {
		at          func(*api.Chain) *int
		least, most int
	}{
		{func(c *api.Chain) *int { return &c.Validators }, 1, 1024},
		{func(c *api.Chain) *int { return &c.Slots }, 1, 32},
		{func(c *api.Chain) *int { return &c.Committees }, 1, 8},
		{func(c *api.Chain) *int { return &c.Subnets }, 1, 64},
		{func(c *api.Chain) *int { return &c.Ticks }, 1, 1000},
		{func(c *api.Chain) *int { return &c.Disparity }, 0, 5},
		{func(c *api.Chain) *int { return &c.Range }, 1, 64},
		{func(c *api.Chain) *int { return &c.Rounds }, 0, 90},
		{func(c *api.Chain) *int { return &c.Aggregators }, 1, 16},
	} {
		for _, n := range []int{math.MinInt, -1, f.least - 1, f.most + 1, math.MaxInt} {
			c := chainOf(8, 10)
			*f.at(&c) = n
			l = append(l, c)
		}
	}
	return append(l, api.Chain{})
}

func somePlans() []api.Plan {
	var l []api.Plan
	for _, node := range nodes {
		for _, keep := range []int{0, 1, 3, 9, 10, 63, 64} {
			for _, period := range []int{1, 2, 7, 255, 256} {
				l = append(l, api.Plan{Node: node, Keep: keep, Period: period})
			}
		}
	}
	return l
}

func wrongPlans() []api.Plan {
	var l []api.Plan
	for _, node := range []uint64{0, 5, math.MaxUint64} {
		for _, keep := range []int{math.MinInt, -64, -1, 65, 66, math.MaxInt} {
			l = append(l, api.Plan{Node: node, Keep: keep, Period: 4})
		}
		for _, period := range []int{math.MinInt, -256, -1, 0, 257, 258, math.MaxInt} {
			l = append(l, api.Plan{Node: node, Keep: 2, Period: period})
		}
		l = append(l, api.Plan{Node: node, Keep: -1, Period: 0})
	}
	return l
}

// What follows tells each call by its promise's words, and the sums by the library.

func foldByLibrary(words ...uint64) uint64 {
	h := fnv.New64a()
	for _, w := range words {
		h.Write(binary.LittleEndian.AppendUint64(nil, w))
	}
	return h.Sum64()
}

func placeByWords(n, rounds int, seed uint64, i int) int {
	for r := 0; r < rounds; r++ {
		p := int(foldByLibrary(seed, uint64(r)) % uint64(n))
		f := (p + n - i) % n
		if foldByLibrary(seed, uint64(r), uint64(max(i, f)))&(1<<40) != 0 {
			i = f
		}
	}
	return i
}

func blockByWords(p api.Plan, epoch int) int {
	return (epoch + int(p.Node%uint64(p.Period))) / p.Period
}

// nextByWords goes on epoch by epoch.
func nextByWords(p api.Plan, epoch int) int {
	next := epoch
	for blockByWords(p, next) == blockByWords(p, epoch) {
		next++
	}
	return next
}

func netsByWords(c api.Chain, p api.Plan, epoch int) []int {
	seed := foldByLibrary(p.Node, uint64(blockByWords(p, epoch)))
	at := placeByWords(c.Subnets, c.Rounds, seed, int(p.Node%uint64(c.Subnets)))
	var l []int
	for len(l) < p.Keep && len(l) < c.Subnets {
		l = append(l, at)
		if at++; at == c.Subnets {
			at = 0
		}
	}
	slices.Sort(l)
	return l
}

func recordByWords(c api.Chain, p api.Plan, epoch int, w uint64) api.Record {
	r := api.Record{Seq: uint64(blockByWords(p, epoch) + 1), Lag: w}
	for _, i := range netsByWords(c, p, epoch) {
		r.Nets += 1 << i
	}
	if f := math.Float64frombits(w); math.IsNaN(f) {
		r.Lag = 0x7ff8000000000001
	} else if f == 0 {
		r.Lag = 0
	}
	return r
}

func mustNets(t *testing.T, c api.Chain, p api.Plan, epoch int) []int {
	t.Helper()
	b, e := Nets(c, p, epoch)
	if e != api.OK || b.Len != c.Subnets {
		t.Fatalf("Nets of epoch %d, %+v, %+v: %+v, error %d", epoch, p, c, b, e)
	}
	return b.On
}

func mustNext(t *testing.T, c api.Chain, p api.Plan, epoch int) int {
	t.Helper()
	n, e := Next(c, p, epoch)
	if e != api.OK {
		t.Fatalf("Next of epoch %d, %+v, %+v: error %d", epoch, p, c, e)
	}
	return n
}

func mustRecord(t *testing.T, c api.Chain, p api.Plan, epoch int, w uint64) api.Record {
	t.Helper()
	r, e := Record(c, p, epoch, w)
	if e != api.OK {
		t.Fatalf("Record of epoch %d, %+v, %+v: error %d", epoch, p, c, e)
	}
	return r
}

// K1.

func TestFits(t *testing.T) {
	for _, p := range append(somePlans(), api.Plan{Period: 1}, api.Plan{Keep: 64, Period: 256}, api.Plan{Keep: 64, Period: 1}, api.Plan{Period: 256}) {
		if !Fits(p) {
			t.Errorf("%+v does not fit", p)
		}
	}
	for _, p := range append(wrongPlans(), api.Plan{}) {
		if Fits(p) {
			t.Errorf("%+v fits", p)
		}
	}
	for keep := -3; keep < 70; keep++ {
		for period := -3; period < 260; period++ {
			p := api.Plan{Node: 7, Keep: keep, Period: period}
			if want := 0 <= keep && keep <= 64 && 1 <= period && period <= 256; Fits(p) != want {
				t.Errorf("%+v: %v", p, !want)
			}
		}
	}
}

// all is each subnet but those that are named.
func all(many int, but ...int) []int {
	var l []int
	for i := range many {
		if !slices.Contains(but, i) {
			l = append(l, i)
		}
	}
	return l
}

func TestKnownTurns(t *testing.T) {
	for _, x := range []struct {
		c     api.Chain
		p     api.Plan
		epoch int
		on    []int
		next  int
		seq   uint64
		nets  uint64
	}{
		// The shift of node 5 is 1: its first block has one epoch less.
		{chainOf(8, 10), api.Plan{Node: 5, Keep: 2, Period: 4}, 0, []int{6, 7}, 3, 1, 192},
		{chainOf(8, 10), api.Plan{Node: 5, Keep: 2, Period: 4}, 2, []int{6, 7}, 3, 1, 192},
		{chainOf(8, 10), api.Plan{Node: 5, Keep: 2, Period: 4}, 3, []int{2, 3}, 7, 2, 12},
		{chainOf(8, 10), api.Plan{Node: 5, Keep: 2, Period: 4}, 6, []int{2, 3}, 7, 2, 12},
		// Behind the last subnet comes the first one.
		{chainOf(8, 10), api.Plan{Node: 5, Keep: 2, Period: 4}, 7, []int{0, 7}, 11, 3, 129},
		{chainOf(8, 10), api.Plan{Node: 5, Keep: 2, Period: 4}, last, []int{6, 7}, last + 3, 274877906945, 192},
		// Of node 2^64 - 1 the shift is the greatest one.
		{chainOf(64, 90), api.Plan{Node: math.MaxUint64, Keep: 64, Period: 256}, 0, all(64), 1, 1, math.MaxUint64},
		{chainOf(64, 90), api.Plan{Node: math.MaxUint64, Keep: 5, Period: 256}, 0, []int{7, 8, 9, 10, 11}, 1, 1, 3968},
		{chainOf(64, 90), api.Plan{Node: math.MaxUint64, Keep: 5, Period: 256}, 1, []int{47, 48, 49, 50, 51}, 257, 2, 4362862139015168},
		{chainOf(64, 90), api.Plan{Node: math.MaxUint64, Keep: 5, Period: 256}, last, []int{10, 11, 12, 13, 14}, last + 1, 4294967297, 31744},
		{chainOf(64, 90), api.Plan{Node: high, Keep: 63, Period: 255}, 126, all(64, 24), 127, 1, 18446744073692774399},
		{chainOf(64, 90), api.Plan{Node: high, Keep: 63, Period: 255}, 127, all(64, 45), 382, 2, 18446708889337462783},
		{chainOf(64, 90), api.Plan{Node: high, Keep: 63, Period: 255}, last, all(64, 3), last + 126, 4311810306, 18446744073709551607},
		{chainOf(1, 0), api.Plan{Keep: 0, Period: 1}, 0, nil, 1, 1, 0},
		{chainOf(1, 0), api.Plan{Keep: 1, Period: 1}, 0, []int{0}, 1, 1, 1},
		{chainOf(1, 0), api.Plan{Keep: 64, Period: 1}, last, []int{0}, last + 1, last + 1, 1},
		{chainOf(3, 7), api.Plan{Node: 10, Keep: 2, Period: 1}, 5, []int{1, 2}, 6, 6, 6},
	} {
		on, next, r := mustNets(t, x.c, x.p, x.epoch), mustNext(t, x.c, x.p, x.epoch), mustRecord(t, x.c, x.p, x.epoch, 0)
		if !slices.Equal(on, x.on) || next != x.next || r != (api.Record{Seq: x.seq, Nets: x.nets}) {
			t.Errorf("epoch %d, %+v: %v, %d, %+v; asked for: %v, %d, %d, %d", x.epoch, x.p, on, next, r, x.on, x.next, x.seq, x.nets)
		}
	}
}

func TestNetsByWords(t *testing.T) {
	for _, c := range someChains() {
		for _, p := range somePlans() {
			for _, epoch := range []int{0, 1, 2, 254, 255, 256, last - 1, last} {
				if on, want := mustNets(t, c, p, epoch), netsByWords(c, p, epoch); !slices.Equal(on, want) {
					t.Fatalf("epoch %d, %+v, %+v: %v; asked for: %v", epoch, p, c, on, want)
				}
			}
		}
	}
}

func TestNetsOfManyByWords(t *testing.T) {
	r := rand.New(rand.NewSource(11))
	round := 0
	for range 20000 {
		c := chainOf(1+r.Intn(64), r.Intn(91))
		p := api.Plan{Node: r.Uint64(), Keep: r.Intn(65), Period: 1 + r.Intn(256)}
		epoch := r.Intn(last + 1)
		on, want := mustNets(t, c, p, epoch), netsByWords(c, p, epoch)
		if !slices.Equal(on, want) {
			t.Fatalf("epoch %d, %+v, %+v: %v; asked for: %v", epoch, p, c, on, want)
		}
		if len(on) > 1 && len(on) < c.Subnets && on[0] == 0 && on[len(on)-1] == c.Subnets-1 {
			round++
		}
	}
	if round < 1000 {
		t.Errorf("too little is tried: %d go on at 0 behind the last one", round)
	}
}

func TestNetsHangOnNodeAndBlock(t *testing.T) {
	c := chainOf(64, 90)
	// All these nodes begin at one subnet, ahead of the shuffling, and have one shift.
	byNode, byBlock := map[int]bool{}, map[int]bool{}
	for i := range 200 {
		byNode[mustNets(t, c, api.Plan{Node: 64 * uint64(i), Keep: 1, Period: 1}, 0)[0]] = true
		byBlock[mustNets(t, c, api.Plan{Keep: 1, Period: 1}, i)[0]] = true
	}
	if len(byNode) < 40 || len(byBlock) < 40 {
		t.Errorf("of 200 nodes, and of 200 blocks, only %d and %d are unlike", len(byNode), len(byBlock))
	}
}

func TestTheChainsSeedDoesNotCount(t *testing.T) {
	a, b := chainOf(64, 90), chainOf(64, 90)
	b.Validators, b.Slots, b.Committees, b.Ticks, b.Disparity, b.Range, b.Aggregators, b.Seed = 1024, 32, 8, 1000, 1000, 64, 16, 77
	for epoch := range 50 {
		p := api.Plan{Node: 9, Keep: 5, Period: 3}
		if !slices.Equal(mustNets(t, a, p, epoch), mustNets(t, b, p, epoch)) || mustNext(t, a, p, epoch) != mustNext(t, b, p, epoch) || mustRecord(t, a, p, epoch, 1) != mustRecord(t, b, p, epoch, 1) {
			t.Errorf("epoch %d: another seed tells something else", epoch)
		}
	}
}

// isRefused fails unless each call answers ErrArg, and nothing else.
func isRefused(t *testing.T, c api.Chain, p api.Plan, epoch int) {
	t.Helper()
	if b, e := Nets(c, p, epoch); b.Len != 0 || len(b.On) > 0 || e != api.ErrArg {
		t.Errorf("Nets of epoch %d, %+v, %+v: %+v, error %d", epoch, p, c, b, e)
	}
	if n, e := Next(c, p, epoch); n != 0 || e != api.ErrArg {
		t.Errorf("Next of epoch %d, %+v, %+v: %d, error %d", epoch, p, c, n, e)
	}
	for _, w := range []uint64{0, 1, api.NaN, math.MaxUint64} {
		if r, e := Record(c, p, epoch, w); r != (api.Record{}) || e != api.ErrArg {
			t.Errorf("Record of epoch %d, %+v, %+v: %+v, error %d", epoch, p, c, r, e)
		}
	}
}

func TestWhatMayNotBeIsRefused(t *testing.T) {
	good := api.Plan{Node: 5, Keep: 2, Period: 4}
	for _, c := range wrongChains() {
		for _, epoch := range []int{-1, 0, 1, last, last + 1} {
			isRefused(t, c, good, epoch)
			isRefused(t, c, api.Plan{}, epoch)
		}
	}
	for _, p := range wrongPlans() {
		for _, epoch := range []int{-1, 0, 1, last, last + 1} {
			isRefused(t, chainOf(8, 10), p, epoch)
		}
	}
	for _, epoch := range []int{math.MinInt, math.MinInt + 1, -last, -4, -1, last + 1, last + 2, 1 << 62, math.MaxInt - 1, math.MaxInt} {
		for _, c := range someChains() {
			for _, p := range somePlans() {
				isRefused(t, c, p, epoch)
			}
		}
	}
}

// K2.

func TestNextByWords(t *testing.T) {
	c := chainOf(8, 10)
	for _, p := range somePlans() {
		for _, epoch := range []int{0, 1, 2, 6, 7, 254, 255, 256, 257, last - 1, last} {
			if n, want := mustNext(t, c, p, epoch), nextByWords(p, epoch); n != want {
				t.Fatalf("epoch %d, %+v: %d; asked for: %d", epoch, p, n, want)
			}
		}
	}
}

func TestRecordByWords(t *testing.T) {
	for _, c := range someChains() {
		for _, p := range somePlans() {
			for _, epoch := range []int{0, 1, 255, last} {
				if r, want := mustRecord(t, c, p, epoch, 7), recordByWords(c, p, epoch, 7); r != want {
					t.Fatalf("epoch %d, %+v, %+v: %+v; asked for: %+v", epoch, p, c, r, want)
				}
			}
		}
	}
}

func TestTheLagOfARecordIsPlain(t *testing.T) {
	c, p := chainOf(8, 10), api.Plan{Node: 5, Keep: 2, Period: 4}
	inf := math.Float64bits(math.Inf(1))
	for _, x := range [][2]uint64{
		{0, 0}, {high, 0}, {1, 1}, {high + 1, high + 1}, {inf, inf}, {inf + high, inf + high},
		{math.Float64bits(1.5), math.Float64bits(1.5)}, {math.Float64bits(-1.5), math.Float64bits(-1.5)},
		{api.NaN, api.NaN}, {inf + 1, api.NaN}, {inf + high + 1, api.NaN}, {0x7ff8000000000000, api.NaN}, {math.MaxUint64, api.NaN},
	} {
		if r, want := mustRecord(t, c, p, 3, x[0]), (api.Record{Seq: 2, Nets: 12, Lag: x[1]}); r != want {
			t.Errorf("lag %#x: %+v; asked for: %+v", x[0], r, want)
		}
	}
}

// K3.

func TestATurnIsOneTillItsNext(t *testing.T) {
	r := rand.New(rand.NewSource(3))
	for range 300 {
		c := chainOf(1+r.Intn(64), r.Intn(91))
		p := api.Plan{Node: r.Uint64(), Keep: r.Intn(65), Period: 1 + r.Intn(40)}
		epoch := r.Intn(last - 1000)
		for range 3 {
			on, next, told := mustNets(t, c, p, epoch), mustNext(t, c, p, epoch), mustRecord(t, c, p, epoch, 5)
			if next <= epoch || next > epoch+p.Period {
				t.Fatalf("epoch %d, %+v: Next is %d", epoch, p, next)
			}
			for at := epoch; at < next; at++ {
				if !slices.Equal(mustNets(t, c, p, at), on) || mustRecord(t, c, p, at, 5) != told || mustNext(t, c, p, at) != next {
					t.Fatalf("epochs %d and %d, %+v, %+v: not the same, but ahead of %d", epoch, at, p, c, next)
				}
			}
			if mustRecord(t, c, p, next, 5).Seq != told.Seq+1 {
				t.Fatalf("epoch %d, %+v: its Next, %d, is of no later block", epoch, p, next)
			}
			// From here on each turn is a whole one.
			if mustNext(t, c, p, next) != next+p.Period {
				t.Fatalf("epoch %d, %+v: a turn of another length", next, p)
			}
			epoch = next
		}
	}
}

func TestAsManyAreSetAsAreKept(t *testing.T) {
	for _, c := range someChains() {
		for keep := range 65 {
			for epoch := range 20 {
				on := mustNets(t, c, api.Plan{Node: 1234567, Keep: keep, Period: 3}, epoch)
				if len(on) != min(keep, c.Subnets) {
					t.Fatalf("epoch %d, %d kept of %d: %v", epoch, keep, c.Subnets, on)
				}
				for i, n := range on {
					if n < 0 || n >= c.Subnets || i > 0 && n <= on[i-1] {
						t.Fatalf("epoch %d, %d kept of %d: %v", epoch, keep, c.Subnets, on)
					}
				}
			}
		}
	}
}

func TestARecordHasItsNets(t *testing.T) {
	for _, c := range someChains() {
		for _, p := range somePlans() {
			var want uint64
			for _, i := range mustNets(t, c, p, 300) {
				want |= 1 << i
			}
			if r := mustRecord(t, c, p, 300, 0); r.Nets != want {
				t.Fatalf("%+v, %+v: %d; asked for: %d", p, c, r.Nets, want)
			}
		}
	}
}

// R3 and R4.

func TestNetsAreNewMemory(t *testing.T) {
	c, p := chainOf(8, 10), api.Plan{Node: 5, Keep: 3, Period: 4}
	a, b := mustNets(t, c, p, 0), mustNets(t, c, p, 0)
	want := slices.Clone(b)
	for i := range a {
		a[i] = -1
	}
	a = append(a[:1], 99, 99, 99)
	if !slices.Equal(b, want) || !slices.Equal(mustNets(t, c, p, 0), want) {
		t.Errorf("an answer is changed by another one's owner: %v", b)
	}
}

func TestTheSameForTheSame(t *testing.T) {
	for _, c := range append(someChains(), wrongChains()...) {
		for _, p := range []api.Plan{{}, {Node: 5, Keep: 2, Period: 4}, {Node: math.MaxUint64, Keep: 64, Period: 256}} {
			for _, epoch := range []int{-1, 0, 77, last, last + 1} {
				a, e := Nets(c, p, epoch)
				b, f := Nets(c, p, epoch)
				m, g := Next(c, p, epoch)
				n, h := Next(c, p, epoch)
				q, j := Record(c, p, epoch, 1)
				r, k := Record(c, p, epoch, 1)
				if a.Len != b.Len || !slices.Equal(a.On, b.On) || e != f || m != n || g != h || q != r || j != k {
					t.Errorf("epoch %d, %+v, %+v", epoch, p, c)
				}
			}
		}
	}
}

// The chapter's example.

func TestExample(t *testing.T) {
	c, p := chainOf(4, 0), api.Plan{Node: 6, Keep: 3, Period: 4}
	if on := mustNets(t, c, p, 0); !slices.Equal(on, []int{0, 2, 3}) {
		t.Error(on)
	}
	if n := mustNext(t, c, p, 0); n != 2 {
		t.Error(n)
	}
}
