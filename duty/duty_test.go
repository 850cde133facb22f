package duty

import (
	"encoding/binary"
	"hash/fnv"
	"math"
	"math/rand"
	"slices"
	"testing"

	"mootbell/api"
)

const last = 1 << 40 // slot, or epoch

func small() api.Chain {
	return api.Chain{Validators: 10, Slots: 2, Committees: 2, Subnets: 3, Ticks: 5, Range: 1, Rounds: 90, Aggregators: 2, Seed: 1}
}

func greatest() api.Chain {
	return api.Chain{Validators: 1024, Slots: 32, Committees: 8, Subnets: 64, Ticks: 1000, Disparity: 1000, Range: 64, Rounds: 90, Aggregators: 16, Seed: math.MaxUint64}
}

func least() api.Chain {
	return api.Chain{Validators: 1, Slots: 1, Committees: 1, Subnets: 1, Ticks: 1, Range: 1, Aggregators: 1}
}

// chainOf is a chain of so many validators, slots and committees.
func chainOf(validators, slots, committees int) api.Chain {
	c := small()
	c.Validators, c.Slots, c.Committees, c.Rounds = validators, slots, committees, 7
	return c
}

// someChains is chains that fit, with more committees than validators, fewer, and as many.
func someChains() []api.Chain {
	return []api.Chain{
		least(), small(), greatest(), chainOf(1, 32, 8), chainOf(1024, 1, 1), chainOf(5, 4, 3), chainOf(12, 4, 3),
		chainOf(13, 4, 3), chainOf(11, 4, 3), chainOf(255, 32, 8), chainOf(256, 32, 8), chainOf(257, 32, 8), chainOf(100, 3, 7),
	}
}

// wrongChains is chains that do not fit, each by one of its numbers alone.
func wrongChains() []api.Chain {
	var l []api.Chain
	for _, f := range []struct {
		at          func(*api.Chain) *int
		least, most int
	}{
		{func(c *api.Chain) *int { return &c.Validators }, 1, 1024},
		{func(c *api.Chain) *int { return &c.Slots }, 1, 32},
		{func(c *api.Chain) *int { return &c.Committees }, 1, 8},
		{func(c *api.Chain) *int { return &c.Subnets }, 1, 64},
		{func(c *api.Chain) *int { return &c.Ticks }, 1, 1000},
		{func(c *api.Chain) *int { return &c.Disparity }, 0, 5},
		{func(c *api.Chain) *int { return &c.Range }, 1, 64},
		{func(c *api.Chain) *int { return &c.Rounds }, 0, 90},
		{func(c *api.Chain) *int { return &c.Aggregators }, 1, 16},
	} {
		for _, n := range []int{math.MinInt, -1, f.least - 1, f.most + 1, math.MaxInt} {
			c := small()
			*f.at(&c) = n
			l = append(l, c)
		}
	}
	return append(l, api.Chain{})
}

// What follows tells each call by its promise's words, and the sums by the library.

func sumByLibrary(b []byte) uint64 {
	h := fnv.New64a()
	h.Write(b)
	return h.Sum64()
}

func foldByLibrary(words ...uint64) uint64 {
	var b []byte
	for _, w := range words {
		b = binary.LittleEndian.AppendUint64(b, w)
	}
	return sumByLibrary(b)
}

func placeByWords(n, rounds int, seed uint64, i int) int {
	for r := 0; r < rounds; r++ {
		p := int(foldByLibrary(seed, uint64(r)) % uint64(n))
		f := (p + n - i) % n
		if foldByLibrary(seed, uint64(r), uint64(max(i, f)))&(1<<40) != 0 {
			i = f
		}
	}
	return i
}

// membersByWords is those of committee k of an epoch, which may be any number.
func membersByWords(c api.Chain, epoch, k int) []int {
	n, many := c.Validators, c.Slots*c.Committees
	seed := foldByLibrary(c.Seed, uint64(epoch))
	var l []int
	for j := range n {
		if j >= n*k/many && j < n*(k+1)/many {
			l = append(l, placeByWords(n, c.Rounds, seed, j))
		}
	}
	return l
}

func encodeByWords(t api.Token) []byte {
	b := []byte{0}
	if t.Forged {
		b[0] = 1
	}
	for _, p := range t.Pairs {
		b = binary.LittleEndian.AppendUint64(b, p.Key)
		b = binary.LittleEndian.AppendUint64(b, p.Root)
	}
	return b
}

// selectedByWords is of a chain that fits and a proof that is right.
func selectedByWords(c api.Chain, size int, proof api.Token) bool {
	if size < 1 {
		return false
	}
	by := size / c.Aggregators
	return by == 0 || sumByLibrary(encodeByWords(proof))%uint64(by) == 0
}

// oneOf is the token of a pair.
func oneOf(key, root uint64) api.Token {
	return api.Token{Pairs: []api.Pair{{Key: key, Root: root}}}
}

// alike is the token of one pair, so many times.
func alike(many int) api.Token {
	return api.Token{Pairs: slices.Repeat([]api.Pair{{Key: 3, Root: 4}}, many)}
}

func mustMembers(t *testing.T, c api.Chain, slot, index int) []int {
	t.Helper()
	l, e := Members(c, slot, index)
	if e != api.OK {
		t.Fatalf("Members of slot %d, index %d, %+v: error %d", slot, index, c, e)
	}
	return l
}

func mustWhere(t *testing.T, c api.Chain, epoch, validator int) [3]int {
	t.Helper()
	slot, index, place, e := Where(c, epoch, validator)
	if e != api.OK {
		t.Fatalf("Where in epoch %d is %d, %+v: error %d", epoch, validator, c, e)
	}
	return [3]int{slot, index, place}
}

// J1.

func TestMembersOfKnownCommittees(t *testing.T) {
	none := chainOf(7, 1, 3)
	none.Rounds = 0
	for _, x := range []struct {
		c           api.Chain
		slot, index int
		want        []int
	}{
		{small(), 0, 0, []int{0, 2}}, {small(), 0, 1, []int{7, 4, 5}}, {small(), 1, 0, []int{1, 9}}, {small(), 1, 1, []int{8, 3, 6}},
		// The next epoch draws anew.
		{small(), 2, 0, []int{3, 8}}, {small(), 2, 1, []int{5, 4, 9}}, {small(), 3, 0, []int{1, 2}}, {small(), 3, 1, []int{7, 6, 0}},
		{small(), last, 0, []int{4, 0}}, {small(), last, 1, []int{5, 3, 7}}, {small(), last - 1, 0, []int{4, 6}}, {small(), last - 1, 1, []int{2, 5, 1}},
		{greatest(), 0, 0, []int{515, 627, 630, 299}}, {greatest(), 31, 7, []int{788, 559, 2, 527}},
		{greatest(), last, 7, []int{626, 347, 65, 806}}, {greatest(), last - 1, 3, []int{839, 445, 165, 447}},
		{least(), 0, 0, []int{0}}, {least(), last, 0, []int{0}},
		{none, 4, 0, []int{0, 1}}, {none, 4, 1, []int{2, 3}}, {none, 4, 2, []int{4, 5, 6}},
	} {
		if l := mustMembers(t, x.c, x.slot, x.index); !slices.Equal(l, x.want) {
			t.Errorf("slot %d, index %d, %+v: %v; asked for: %v", x.slot, x.index, x.c, l, x.want)
		}
	}
}

func TestMembersByWords(t *testing.T) {
	for _, c := range someChains() {
		for _, epoch := range []int{0, 1, last/c.Slots - 1} {
			for k := range c.Slots * c.Committees {
				slot, index := epoch*c.Slots+k/c.Committees, k%c.Committees
				if l, want := mustMembers(t, c, slot, index), membersByWords(c, epoch, k); !slices.Equal(l, want) {
					t.Fatalf("slot %d, index %d, %+v: %v; asked for: %v", slot, index, c, l, want)
				}
			}
		}
	}
}

func TestMembersHangOnSeedAndEpoch(t *testing.T) {
	c := chainOf(100, 2, 2)
	a := mustMembers(t, c, 0, 0)
	c.Seed++
	b := mustMembers(t, c, 0, 0)
	c.Seed--
	if slices.Equal(a, b) || slices.Equal(a, mustMembers(t, c, 2, 0)) {
		t.Error("another seed or another epoch draws the same")
	}
	// Within an epoch nothing is drawn anew.
	if c.Slots = 1; !slices.Equal(mustMembers(t, c, 5, 0), membersByWords(c, 5, 0)) {
		t.Error("one slot an epoch: the slot's number is not its epoch's")
	}
}

func TestWhatMayNotBeHasNoMembersAndNoSubnet(t *testing.T) {
	try := func(c api.Chain, slot, index int) {
		t.Helper()
		if l, e := Members(c, slot, index); len(l) > 0 || e != api.ErrArg {
			t.Errorf("Members of slot %d, index %d, %+v: %v, error %d", slot, index, c, l, e)
		}
		if n, e := Subnet(c, slot, index); n != 0 || e != api.ErrArg {
			t.Errorf("Subnet of slot %d, index %d, %+v: %d, error %d", slot, index, c, n, e)
		}
	}
	for _, c := range someChains() {
		for _, slot := range []int{math.MinInt, math.MinInt + 1, -last, -c.Slots, -1, last + 1, last + 2, 1 << 62, math.MaxInt} {
			try(c, slot, 0)
			try(c, slot, c.Committees-1)
		}
		for _, index := range []int{math.MinInt, -c.Committees, -1, c.Committees, c.Committees + 1, 1 << 62, math.MaxInt} {
			try(c, 0, index)
			try(c, last, index)
		}
	}
	for _, c := range wrongChains() {
		for _, slot := range []int{-1, 0, 1, last, last + 1} {
			try(c, slot, 0)
			try(c, slot, -1)
		}
	}
}

// J2.

func TestWhereOfKnownValidators(t *testing.T) {
	for _, x := range []struct {
		c                api.Chain
		epoch, validator int
		want             [3]int
	}{
		{small(), 0, 0, [3]int{0, 0, 0}}, {small(), 1, 0, [3]int{3, 1, 2}}, {small(), 0, 9, [3]int{1, 0, 1}}, {small(), 1, 9, [3]int{2, 1, 2}},
		// Their slots are beyond the last one that may be.
		{small(), last, 0, [3]int{2199023255553, 1, 0}}, {small(), last, 9, [3]int{2199023255553, 0, 1}},
		{greatest(), 0, 0, [3]int{11, 2, 2}}, {greatest(), 0, 1023, [3]int{13, 0, 2}}, {greatest(), 0, 500, [3]int{8, 6, 3}},
		{greatest(), last, 0, [3]int{35184372088856, 3, 3}}, {greatest(), last, 1023, [3]int{35184372088845, 0, 2}}, {greatest(), last, 500, [3]int{35184372088858, 3, 1}},
		{least(), 0, 0, [3]int{0, 0, 0}}, {least(), last, 0, [3]int{last, 0, 0}},
	} {
		if got := mustWhere(t, x.c, x.epoch, x.validator); got != x.want {
			t.Errorf("epoch %d, validator %d, %+v: %v; asked for: %v", x.epoch, x.validator, x.c, got, x.want)
		}
	}
}

func TestWhereByWords(t *testing.T) {
	for _, c := range someChains() {
		for _, epoch := range []int{0, 1, 12345, last / c.Slots, min(last/c.Slots+1, last), last - 1, last} {
			seen := 0
			for k := range c.Slots * c.Committees {
				for place, v := range membersByWords(c, epoch, k) {
					want := [3]int{epoch*c.Slots + k/c.Committees, k % c.Committees, place}
					if got := mustWhere(t, c, epoch, v); got != want {
						t.Fatalf("epoch %d, validator %d, %+v: %v; asked for: %v", epoch, v, c, got, want)
					}
					seen++
				}
			}
			if seen != c.Validators {
				t.Fatalf("epoch %d, %+v: %d validators are tried", epoch, c, seen)
			}
		}
	}
}

func TestWhatMayNotBeIsNowhere(t *testing.T) {
	try := func(c api.Chain, epoch, validator int) {
		t.Helper()
		if slot, index, place, e := Where(c, epoch, validator); slot != 0 || index != 0 || place != 0 || e != api.ErrArg {
			t.Errorf("epoch %d, validator %d, %+v: %d, %d, %d, error %d", epoch, validator, c, slot, index, place, e)
		}
	}
	for _, c := range someChains() {
		for _, epoch := range []int{math.MinInt, -last, -1, last + 1, 1 << 62, math.MaxInt} {
			try(c, epoch, 0)
			try(c, epoch, c.Validators-1)
		}
		for _, v := range []int{math.MinInt, -c.Validators, -1, c.Validators, c.Validators + 1, 1 << 62, math.MaxInt} {
			try(c, 0, v)
			try(c, last, v)
		}
	}
	for _, c := range wrongChains() {
		for _, epoch := range []int{-1, 0, last, last + 1} {
			try(c, epoch, 0)
			try(c, epoch, -1)
		}
	}
}

// J3.

func TestSubnet(t *testing.T) {
	for _, c := range someChains() {
		for _, subnets := range []int{1, 2, 5, 63, 64} {
			c.Subnets = subnets
			for _, epoch := range []int{0, 1, last/c.Slots - 1} {
				for k := range c.Slots * c.Committees {
					slot, index := epoch*c.Slots+k/c.Committees, k%c.Committees
					if n, e := Subnet(c, slot, index); n != k%subnets || e != api.OK {
						t.Fatalf("slot %d, index %d, %+v: %d, error %d; asked for: %d", slot, index, c, n, e, k%subnets)
					}
				}
			}
		}
	}
	c := chainOf(10, 32, 8)
	c.Subnets = 64
	// The last slot is the first one of its epoch, and the one ahead of it the last one of its own.
	for _, x := range [][3]int{{last, 7, 7}, {last - 1, 7, 63}, {last - 1, 0, 248 % 64}, {9, 1, 73 % 64}} {
		if n, e := Subnet(c, x[0], x[1]); n != x[2] || e != api.OK {
			t.Errorf("slot %d, index %d: %d, error %d; asked for: %d", x[0], x[1], n, e, x[2])
		}
	}
}

func TestSlotRoot(t *testing.T) {
	for _, x := range []struct {
		slot int
		want uint64
	}{
		{0, 12161962213042174405}, {1, 9929646806074584996}, {8, 11573741395073338061}, {last, 11537796949662120730},
		{-1, 10157053723145373757}, {math.MinInt, 12161821475553763397}, {math.MaxInt, 10157194460633784765},
	} {
		if got := SlotRoot(x.slot); got != x.want || got != foldByLibrary(uint64(x.slot)) {
			t.Errorf("slot %d: %d; asked for: %d", x.slot, got, x.want)
		}
	}
}

func TestSelectedByWords(t *testing.T) {
	r := rand.New(rand.NewSource(10))
	told := map[bool]int{}
	for range 20000 {
		c := small()
		c.Aggregators = 1 + r.Intn(16)
		size := 1 + r.Intn(6*c.Aggregators)
		p := oneOf(r.Uint64(), r.Uint64())
		p.Forged = r.Intn(2) == 0
		if r.Intn(2) == 0 {
			p.Pairs = append(p.Pairs, p.Pairs[0])
		}
		want := selectedByWords(c, size, p)
		if Selected(c, size, p) != want {
			t.Fatalf("of %d, %d of whom put together, %+v: %v", size, c.Aggregators, p, !want)
		}
		told[want]++
	}
	if told[true] < 2000 || told[false] < 2000 {
		t.Errorf("too little is tried: %v", told)
	}
}

func TestSelectedAtTheEdges(t *testing.T) {
	c := small()
	c.Aggregators = 3
	all := map[int]bool{math.MinInt: false, -3: false, -1: false, 0: false, 1: true, 2: true, 3: true, 4: true, 5: true}
	for size, want := range all {
		for key := range uint64(50) {
			if Selected(c, size, oneOf(key, 7)) != want {
				t.Errorf("of %d, key %d: %v", size, key, !want)
			}
		}
	}
	// By 2 they are about half, by a great number nearly none.
	half, few := 0, 0
	for key := range uint64(1000) {
		for size := 6; size <= 9; size++ {
			p := oneOf(key, 7)
			if Selected(c, size, p) != selectedByWords(c, size, p) {
				t.Errorf("of %d, key %d", size, key)
			}
		}
		if Selected(c, 8, oneOf(key, 7)) {
			half++
		}
		if Selected(c, math.MaxInt, oneOf(key, 7)) {
			few++
		}
	}
	if half < 400 || half > 600 || few > 0 {
		t.Errorf("%d of 1000 by 2, %d by the greatest number", half, few)
	}
}

func TestSelectedByProofsThatMayBe(t *testing.T) {
	c := small()
	for _, p := range []api.Token{{}, {Forged: true}, {Pairs: []api.Pair{}}, oneOf(0, 0), alike(2), alike(2048)} {
		for size := 1; size < 40; size++ {
			if want := selectedByWords(c, size, p); Selected(c, size, p) != want {
				t.Errorf("of %d, by %d pairs: %v", size, len(p.Pairs), !want)
			}
		}
	}
}

func TestNobodyIsSelectedByWhatMayNotBe(t *testing.T) {
	for _, p := range []api.Token{
		alike(2049), {Pairs: []api.Pair{{Key: 2}, {Key: 1}}}, {Forged: true, Pairs: []api.Pair{{Key: 1, Root: 2}, {Key: 1, Root: 1}}},
	} {
		// Where the quotient is 0 or 1 each one that is right is selected.
		for size := 1; size < 40; size++ {
			if Selected(small(), size, p) {
				t.Errorf("of %d, by a proof of %d pairs that is not right", size, len(p.Pairs))
			}
		}
	}
	for _, c := range wrongChains() {
		for _, size := range []int{-1, 0, 1, 2, 40} {
			if Selected(c, size, oneOf(1, 2)) {
				t.Errorf("of %d, %+v", size, c)
			}
		}
	}
}

// J4.

func TestEachValidatorIsInOneCommitteeOnce(t *testing.T) {
	r := rand.New(rand.NewSource(4))
	for range 150 {
		c := chainOf(1+r.Intn(1024), 1+r.Intn(32), 1+r.Intn(8))
		c.Seed, c.Rounds = r.Uint64(), r.Intn(91)
		epoch := r.Intn(last / c.Slots)
		in := make([]int, c.Validators)
		fewest, most := c.Validators, 0
		for slot := epoch * c.Slots; slot < (epoch+1)*c.Slots; slot++ {
			for index := range c.Committees {
				l := mustMembers(t, c, slot, index)
				fewest, most = min(fewest, len(l)), max(most, len(l))
				for place, v := range l {
					in[v]++
					if got, want := mustWhere(t, c, epoch, v), [3]int{slot, index, place}; got != want {
						t.Fatalf("validator %d, %+v: %v; asked for: %v", v, c, got, want)
					}
				}
			}
		}
		if slices.Min(in) != 1 || slices.Max(in) != 1 || most-fewest > 1 {
			t.Fatalf("%+v: a validator is in %d to %d committees, a committee has %d to %d", c, slices.Min(in), slices.Max(in), fewest, most)
		}
	}
}

func TestMembersHaveThoseWhoAreThere(t *testing.T) {
	r := rand.New(rand.NewSource(5))
	for range 2000 {
		c := chainOf(1+r.Intn(1024), 1+r.Intn(32), 1+r.Intn(8))
		c.Seed = r.Uint64()
		epoch, v := r.Intn(last/c.Slots), r.Intn(c.Validators)
		at := mustWhere(t, c, epoch, v)
		l := mustMembers(t, c, at[0], at[1])
		if at[0]/c.Slots != epoch || at[2] >= len(l) || l[at[2]] != v {
			t.Fatalf("epoch %d, validator %d, %+v: %v of %v", epoch, v, c, at, l)
		}
	}
}

// R3 and R4.

func TestMembersAreNewMemory(t *testing.T) {
	a, b := mustMembers(t, small(), 0, 1), mustMembers(t, small(), 0, 1)
	for i := range a {
		a[i] = -1
	}
	a = append(a[:1], 99, 99, 99)
	if want := []int{7, 4, 5}; !slices.Equal(b, want) || !slices.Equal(mustMembers(t, small(), 0, 1), want) {
		t.Errorf("an answer is changed by another one's owner: %v, %v", a, b)
	}
}

func TestTheProofIsNotWrittenInto(t *testing.T) {
	room := []api.Pair{{Key: 1, Root: 2}, {Key: 3, Root: 4}, {Key: 5, Root: 6}}
	was := slices.Clone(room)
	for size := range 20 {
		Selected(small(), size, api.Token{Pairs: room[:2]})
	}
	if !slices.Equal(room, was) {
		t.Errorf("%v", room)
	}
}

func TestTheSameForTheSame(t *testing.T) {
	for _, c := range append(someChains(), wrongChains()...) {
		for _, n := range []int{math.MinInt, -1, 0, 1, last, last + 1, math.MaxInt} {
			for _, i := range []int{-1, 0, 3, 8} {
				a, e := Members(c, n, i)
				b, f := Members(c, n, i)
				g, h := Subnet(c, n, i)
				j, k := Subnet(c, n, i)
				if !slices.Equal(a, b) || e != f || g != j || h != k {
					t.Errorf("slot %d, index %d, %+v", n, i, c)
				}
				s, x, p, e := Where(c, n, i)
				u, y, q, f := Where(c, n, i)
				if s != u || x != y || p != q || e != f {
					t.Errorf("epoch %d, validator %d, %+v", n, i, c)
				}
			}
		}
	}
}

func TestOtherNumbersOfTheChainDoNotCount(t *testing.T) {
	a, b := small(), small()
	b.Ticks, b.Disparity, b.Range = 1000, 1000, 64
	for v := range 10 {
		if mustWhere(t, a, 3, v) != mustWhere(t, b, 3, v) {
			t.Errorf("validator %d", v)
		}
	}
	for slot := range 8 {
		for index := range 2 {
			m, e := Subnet(a, slot, index)
			n, f := Subnet(b, slot, index)
			if !slices.Equal(mustMembers(t, a, slot, index), mustMembers(t, b, slot, index)) || m != n || e != f {
				t.Errorf("slot %d, index %d", slot, index)
			}
		}
	}
}

// The chapter's example.

func TestExample(t *testing.T) {
	c := chainOf(3, 2, 2)
	var sizes []int
	for k := range 4 {
		sizes = append(sizes, len(mustMembers(t, c, k/2, k%2)))
	}
	if !slices.Equal(sizes, []int{0, 1, 1, 1}) {
		t.Error(sizes)
	}
}
