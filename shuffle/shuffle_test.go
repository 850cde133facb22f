package shuffle

import (
	"encoding/binary"
	"hash/fnv"
	"math"
	"math/rand"
	"slices"
	"testing"

	"mootbell/api"
)

const (
	most   = 65536 // numbers
	latest = 89    // round
	high   = 1 << 63
)

var seeds = []uint64{0, 1, 2, 255, 256, 12345, high - 1, high, math.MaxUint64 - 1, math.MaxUint64}

// foldByLibrary is chapter 4's Fold.
func foldByLibrary(words ...uint64) uint64 {
	h := fnv.New64a()
	for _, w := range words {
		h.Write(binary.LittleEndian.AppendUint64(nil, w))
	}
	return h.Sum64()
}

// roundByWords follows I1's words one by one.
func roundByWords(n int, seed uint64, r, i int) int {
	p := int(foldByLibrary(seed, uint64(r)) % uint64(n))
	f := (p + n - i) % n
	t := i
	if f > t {
		t = f
	}
	if foldByLibrary(seed, uint64(r), uint64(t))&(1<<40) != 0 {
		return f
	}
	return i
}

// placeByWords and backByWords follow I2's.
func placeByWords(n, rounds int, seed uint64, i int) int {
	for r := 0; r < rounds; r++ {
		i = roundByWords(n, seed, r, i)
	}
	return i
}

func backByWords(n, rounds int, seed uint64, i int) int {
	for r := rounds - 1; r >= 0; r-- {
		i = roundByWords(n, seed, r, i)
	}
	return i
}

// some is numbers from 0 to n - 1: the ends, the middle, and others.
func some(n int, r *rand.Rand) []int {
	return []int{0, n - 1, n / 2, (n - 1) / 2, r.Intn(n), r.Intn(n), r.Intn(n)}
}

func mustRound(t *testing.T, n int, seed uint64, r, i int) int {
	t.Helper()
	got, e := Round(n, seed, r, i)
	if e != api.OK || got < 0 || got >= n {
		t.Fatalf("Round(%d, %d, %d, %d) = %d, error %d", n, seed, r, i, got, e)
	}
	return got
}

func mustPlace(t *testing.T, n, rounds int, seed uint64, i int) int {
	t.Helper()
	got, e := Place(n, rounds, seed, i)
	if e != api.OK || got < 0 || got >= n {
		t.Fatalf("Place(%d, %d, %d, %d) = %d, error %d", n, rounds, seed, i, got, e)
	}
	return got
}

func mustBack(t *testing.T, n, rounds int, seed uint64, i int) int {
	t.Helper()
	got, e := Back(n, rounds, seed, i)
	if e != api.OK || got < 0 || got >= n {
		t.Fatalf("Back(%d, %d, %d, %d) = %d, error %d", n, rounds, seed, i, got, e)
	}
	return got
}

func mustAll(t *testing.T, n, rounds int, seed uint64) []int {
	t.Helper()
	l, e := All(n, rounds, seed)
	if e != api.OK || len(l) != n {
		t.Fatalf("All(%d, %d, %d): %d numbers, error %d", n, rounds, seed, len(l), e)
	}
	return l
}

// I1.

func TestRoundOfKnownNumbers(t *testing.T) {
	for _, c := range []struct {
		n    int
		seed uint64
		r, i int
		want int
	}{
		// The pivot of 10 numbers, seed 0 and round 0 is 1: 0 and 1 are mates, and 2 and 9, 3 and 8 .. ; only 2 and 9, and 5 and 6, change.
		{10, 0, 0, 0, 0}, {10, 0, 0, 1, 1}, {10, 0, 0, 2, 9}, {10, 0, 0, 3, 3}, {10, 0, 0, 4, 4},
		{10, 0, 0, 5, 6}, {10, 0, 0, 6, 5}, {10, 0, 0, 7, 7}, {10, 0, 0, 8, 8}, {10, 0, 0, 9, 2},
		{7, 3, 2, 4, 1}, {1000, 12345, 50, 999, 999}, {1000, 12345, 50, 0, 470}, {1000, 12345, 50, 470, 0},
		{2, 2, 0, 0, 1}, {2, 2, 0, 1, 0}, {2, 1, 0, 0, 0}, {2, 1, 0, 1, 1},
		{65535, 77, 1, 32767, 32767},
		{most, high, latest, most - 1, most - 1}, {most, math.MaxUint64, latest, 0, 0},
	} {
		if got := mustRound(t, c.n, c.seed, c.r, c.i); got != c.want {
			t.Errorf("Round(%d, %d, %d, %d) = %d, want %d", c.n, c.seed, c.r, c.i, got, c.want)
		}
	}
}

func TestRoundByWords(t *testing.T) {
	for n := 1; n <= 40; n++ {
		for _, seed := range seeds {
			for _, r := range []int{0, 1, 7, 88, latest} {
				for i := range n {
					if got, want := mustRound(t, n, seed, r, i), roundByWords(n, seed, r, i); got != want {
						t.Fatalf("Round(%d, %d, %d, %d) = %d, want %d", n, seed, r, i, got, want)
					}
				}
			}
		}
	}
}

func TestRoundByWordsOfManyNumbers(t *testing.T) {
	rnd := rand.New(rand.NewSource(1))
	moved := 0
	for range 20000 {
		n, seed, r := 1+rnd.Intn(most), rnd.Uint64(), rnd.Intn(latest+1)
		if rnd.Intn(4) == 0 {
			n = most - rnd.Intn(3)
		}
		for _, i := range some(n, rnd) {
			got, want := mustRound(t, n, seed, r, i), roundByWords(n, seed, r, i)
			if got != want {
				t.Fatalf("Round(%d, %d, %d, %d) = %d, want %d", n, seed, r, i, got, want)
			}
			if got != i {
				moved++
			}
		}
	}
	if moved < 50000 || moved > 90000 {
		t.Errorf("too little is tried: of 140000 numbers %d moved", moved)
	}
}

func TestEachRoundAndSeedIsOneOfItsOwn(t *testing.T) {
	// The round and the seed are no sum and no pair without order.
	told := map[string]bool{}
	many := 0
	for _, seed := range []uint64{0, 1, 2, 3, 256, high} {
		for r := range 4 {
			var s []byte
			for i := range 200 {
				s = append(s, byte(mustRound(t, 200, seed, r, i)))
			}
			told[string(s)] = true
			many++
		}
	}
	if len(told) != many {
		t.Errorf("of %d rounds only %d are unlike", many, len(told))
	}
}

// I2.

func TestPlaceAndBackOfKnownNumbers(t *testing.T) {
	for _, c := range []struct {
		n, rounds   int
		seed        uint64
		i           int
		place, back int
	}{
		{most, 90, 0, 0, 13102, 21937},
		{most, 90, math.MaxUint64, most - 1, 56481, 46788},
		{1024, 90, 42, 1023, 226, 707},
		{1024, 10, 42, 512, 554, 75},
		{333, 1, 9, 332, 87, 87},
		{100, 37, high, 50, 97, 1},
		{3, 90, 6, 2, 1, 0},
		{1, 90, 8, 0, 0, 0},
		{100, 0, 8, 99, 99, 99},
	} {
		place, back := mustPlace(t, c.n, c.rounds, c.seed, c.i), mustBack(t, c.n, c.rounds, c.seed, c.i)
		if place != c.place || back != c.back {
			t.Errorf("%d of %d, %d rounds, seed %d: Place %d, Back %d, want %d and %d", c.i, c.n, c.rounds, c.seed, place, back, c.place, c.back)
		}
	}
}

func TestAllOfKnownNumbers(t *testing.T) {
	for _, c := range []struct {
		rounds int
		seed   uint64
		want   []int
	}{
		{1, 0, []int{0, 1, 9, 3, 4, 6, 5, 7, 8, 2}},
		{90, 1, []int{8, 7, 4, 5, 3, 6, 0, 1, 9, 2}},
		{10, math.MaxUint64, []int{4, 2, 5, 1, 6, 0, 3}},
		{1, 2, []int{1, 0}},
		{3, 5, []int{0, 1}},
		{90, 8, []int{0}},
	} {
		if got := mustAll(t, len(c.want), c.rounds, c.seed); !slices.Equal(got, c.want) {
			t.Errorf("All(%d, %d, %d) = %v, want %v", len(c.want), c.rounds, c.seed, got, c.want)
		}
	}
}

func TestPlaceAndBackByWords(t *testing.T) {
	rnd := rand.New(rand.NewSource(2))
	unlike := 0
	for range 1000 {
		n, rounds, seed := 1+rnd.Intn(most), rnd.Intn(91), rnd.Uint64()
		if rnd.Intn(2) == 0 {
			n = 1 + rnd.Intn(100)
		}
		for _, i := range some(n, rnd) {
			place, back := mustPlace(t, n, rounds, seed, i), mustBack(t, n, rounds, seed, i)
			if want := placeByWords(n, rounds, seed, i); place != want {
				t.Fatalf("Place(%d, %d, %d, %d) = %d, want %d", n, rounds, seed, i, place, want)
			}
			if want := backByWords(n, rounds, seed, i); back != want {
				t.Fatalf("Back(%d, %d, %d, %d) = %d, want %d", n, rounds, seed, i, back, want)
			}
			if place != back {
				unlike++
			}
		}
	}
	if unlike < 5000 {
		t.Errorf("too little is tried: Place and Back were unlike only %d times", unlike)
	}
}

func TestPlaceAndBackAreRoundsOneByOne(t *testing.T) {
	for _, n := range []int{1, 2, 3, 64, 1000, most} {
		for _, i := range []int{0, n / 2, n - 1} {
			forth, seed := i, uint64(n)
			for rounds := range latest + 2 {
				if got := mustPlace(t, n, rounds, seed, i); got != forth {
					t.Fatalf("Place(%d, %d, %d, %d) = %d, want %d", n, rounds, seed, i, got, forth)
				}
				if rounds > 0 {
					// The last round is the first that Back makes.
					if got, want := mustBack(t, n, rounds, seed, i), mustBack(t, n, rounds-1, seed, mustRound(t, n, seed, rounds-1, i)); got != want {
						t.Fatalf("Back(%d, %d, %d, %d) = %d, want %d", n, rounds, seed, i, got, want)
					}
				}
				if rounds <= latest {
					forth = mustRound(t, n, seed, rounds, forth)
				}
			}
		}
	}
}

func TestAllIsEachPlace(t *testing.T) {
	for _, c := range [][2]int{{1, 0}, {1, 90}, {2, 1}, {2, 89}, {2, 90}, {3, 2}, {33, 90}, {64, 10}, {1000, 30}, {1024, 90}, {9999, 7}} {
		for _, seed := range seeds {
			for i, got := range mustAll(t, c[0], c[1], seed) {
				if want := placeByWords(c[0], c[1], seed, i); got != want {
					t.Fatalf("All(%d, %d, %d): %d at %d, want %d", c[0], c[1], seed, got, i, want)
				}
			}
		}
	}
}

func TestAllOfTheMostNumbersAndRounds(t *testing.T) {
	l := mustAll(t, most, 90, 0)
	if l[0] != 13102 {
		t.Errorf("0 becomes %d", l[0])
	}
	rnd := rand.New(rand.NewSource(3))
	for range 500 {
		i := rnd.Intn(most)
		if want := mustPlace(t, most, 90, 0, i); l[i] != want {
			t.Fatalf("%d becomes %d, want %d", i, l[i], want)
		}
	}
	tryEachOnce(t, l)
}

func TestWithoutRounds(t *testing.T) {
	for _, n := range []int{1, 2, 100, most} {
		for _, seed := range seeds {
			for i, got := range mustAll(t, n, 0, seed) {
				if got != i {
					t.Fatalf("All of %d, seed %d: %d at %d", n, seed, got, i)
				}
			}
			for _, i := range []int{0, n / 2, n - 1} {
				if mustPlace(t, n, 0, seed, i) != i || mustBack(t, n, 0, seed, i) != i {
					t.Errorf("%d of %d, seed %d, moved", i, n, seed)
				}
			}
		}
	}
}

func TestOfOneNumber(t *testing.T) {
	for _, seed := range seeds {
		for r := range latest + 1 {
			if mustRound(t, 1, seed, r, 0) != 0 || mustPlace(t, 1, r+1, seed, 0) != 0 || mustBack(t, 1, r+1, seed, 0) != 0 || mustAll(t, 1, r+1, seed)[0] != 0 {
				t.Errorf("seed %d, round %d: 0 moved", seed, r)
			}
		}
	}
}

// I1 and I2: what may be, and what may not.

func TestRoundAtTheEdges(t *testing.T) {
	for _, c := range []struct {
		n, r, i int
		may     bool
	}{
		{1, 0, 0, true}, {most, 0, 0, true}, {most, latest, most - 1, true}, {5, 0, 4, true}, {5, latest, 0, true}, {most - 1, 88, most - 2, true},
		{0, 0, 0, false}, {-1, 0, 0, false}, {0, 0, -1, false}, {-5, 0, -6, false}, {most + 1, 0, 0, false}, {most + 1, 0, most, false},
		{math.MinInt, 0, 0, false}, {math.MaxInt, 0, 0, false}, {math.MaxInt, 0, math.MaxInt - 1, false},
		{5, -1, 0, false}, {5, latest + 1, 0, false}, {5, math.MinInt, 0, false}, {5, math.MaxInt, 0, false}, {5, 255, 0, false},
		{5, 0, -1, false}, {5, 0, 5, false}, {1, 0, 1, false}, {most, 0, most, false}, {5, 0, math.MinInt, false}, {5, 0, math.MaxInt, false},
		{0, -1, 7, false},
	} {
		for _, seed := range seeds {
			got, e := Round(c.n, seed, c.r, c.i)
			if c.may && (e != api.OK || got != roundByWords(c.n, seed, c.r, c.i)) || !c.may && (e != api.ErrArg || got != 0) {
				t.Errorf("Round(%d, %d, %d, %d) = %d, error %d", c.n, seed, c.r, c.i, got, e)
			}
		}
	}
}

func TestPlaceAndBackAtTheEdges(t *testing.T) {
	for _, c := range []struct {
		n, rounds, i int
		may          bool
	}{
		{1, 0, 0, true}, {1, 90, 0, true}, {most, 0, most - 1, true}, {most, 90, most - 1, true}, {most, 89, 0, true}, {5, 90, 4, true},
		{0, 0, 0, false}, {0, 1, 0, false}, {-1, 1, 0, false}, {-5, 0, -6, false}, {most + 1, 1, 0, false}, {most + 1, 0, most, false},
		{math.MinInt, 0, 0, false}, {math.MaxInt, 0, 0, false}, {math.MaxInt, 90, math.MaxInt - 1, false},
		{5, -1, 0, false}, {5, 91, 0, false}, {5, math.MinInt, 0, false}, {5, math.MaxInt, 0, false}, {5, 256, 0, false},
		{5, 1, -1, false}, {5, 1, 5, false}, {5, 0, -1, false}, {5, 0, 5, false}, {1, 0, 1, false}, {most, 90, most, false},
		{5, 1, math.MinInt, false}, {5, 1, math.MaxInt, false},
		{0, -1, 7, false},
	} {
		for _, seed := range seeds {
			place, e := Place(c.n, c.rounds, seed, c.i)
			back, g := Back(c.n, c.rounds, seed, c.i)
			if c.may && (e != api.OK || place != placeByWords(c.n, c.rounds, seed, c.i)) || !c.may && (e != api.ErrArg || place != 0) {
				t.Errorf("Place(%d, %d, %d, %d) = %d, error %d", c.n, c.rounds, seed, c.i, place, e)
			}
			if c.may && (g != api.OK || back != backByWords(c.n, c.rounds, seed, c.i)) || !c.may && (g != api.ErrArg || back != 0) {
				t.Errorf("Back(%d, %d, %d, %d) = %d, error %d", c.n, c.rounds, seed, c.i, back, g)
			}
		}
	}
}

func TestAllAtTheEdges(t *testing.T) {
	for _, c := range [][2]int{
		{0, 0}, {0, 1}, {-1, 1}, {most + 1, 0}, {most + 1, 1}, {math.MinInt, 1}, {math.MaxInt, 1},
		{5, -1}, {5, 91}, {5, math.MinInt}, {5, math.MaxInt}, {1, 91}, {most, 91}, {0, -1}, {math.MaxInt, math.MaxInt},
	} {
		for _, seed := range seeds {
			if l, e := All(c[0], c[1], seed); len(l) > 0 || e != api.ErrArg {
				t.Errorf("All(%d, %d, %d): %d numbers, error %d", c[0], c[1], seed, len(l), e)
			}
		}
	}
	for _, c := range [][2]int{{1, 0}, {1, 90}, {5, 90}, {most, 0}, {most, 1}} {
		mustAll(t, c[0], c[1], 3)
	}
}

// I3.

func tryEachOnce(t *testing.T, l []int) {
	t.Helper()
	there := make([]bool, len(l))
	for _, k := range l {
		if k < 0 || k >= len(l) || there[k] {
			t.Fatalf("of %d numbers %d may not be, or is there twice", len(l), k)
		}
		there[k] = true
	}
}

func TestARoundMadeTwiceIsNone(t *testing.T) {
	rnd := rand.New(rand.NewSource(4))
	for range 5000 {
		n, seed, r := 1+rnd.Intn(most), rnd.Uint64(), rnd.Intn(latest+1)
		if rnd.Intn(2) == 0 {
			n = 1 + rnd.Intn(9)
		}
		for _, i := range some(n, rnd) {
			once := mustRound(t, n, seed, r, i)
			if twice := mustRound(t, n, seed, r, once); twice != i {
				t.Fatalf("round %d of %d, seed %d: %d becomes %d, and that %d", r, n, seed, i, once, twice)
			}
		}
	}
}

func TestBackUndoesPlaceAndPlaceBack(t *testing.T) {
	rnd := rand.New(rand.NewSource(5))
	for range 1000 {
		n, rounds, seed := 1+rnd.Intn(most), rnd.Intn(91), rnd.Uint64()
		if rnd.Intn(2) == 0 {
			n = 1 + rnd.Intn(9)
		}
		for _, i := range some(n, rnd) {
			if got := mustBack(t, n, rounds, seed, mustPlace(t, n, rounds, seed, i)); got != i {
				t.Fatalf("%d of %d, %d rounds, seed %d: Back of Place is %d", i, n, rounds, seed, got)
			}
			if got := mustPlace(t, n, rounds, seed, mustBack(t, n, rounds, seed, i)); got != i {
				t.Fatalf("%d of %d, %d rounds, seed %d: Place of Back is %d", i, n, rounds, seed, got)
			}
		}
	}
}

func TestAllHasEachNumberOnce(t *testing.T) {
	for _, n := range []int{1, 2, 3, 4, 5, 33, 64, 1000, most - 1, most} {
		for _, rounds := range []int{0, 1, 2, 10} {
			for _, seed := range []uint64{0, 77, math.MaxUint64} {
				tryEachOnce(t, mustAll(t, n, rounds, seed))
			}
		}
	}
}

// R3 and R4.

func TestAllIsNewMemory(t *testing.T) {
	a, b := mustAll(t, 50, 20, 6), mustAll(t, 50, 20, 6)
	want := slices.Clone(a)
	for i := range a {
		a[i] = -1
	}
	_ = append(a[:10], 1, 2, 3)
	if c := mustAll(t, 50, 20, 6); !slices.Equal(b, want) || !slices.Equal(c, want) {
		t.Error("an answer was changed by way of another one")
	}
}

func TestTheSameForTheSame(t *testing.T) {
	for _, n := range []int{-1, 0, 1, 2, 77, most, most + 1} {
		for _, rounds := range []int{-1, 0, 1, 5, 90, 91} {
			for _, i := range []int{-1, 0, 1, 76, most} {
				a, e := Round(n, 9, rounds, i)
				b, f := Round(n, 9, rounds, i)
				c, g := Place(n, rounds, 9, i)
				d, h := Place(n, rounds, 9, i)
				j, k := Back(n, rounds, 9, i)
				l, m := Back(n, rounds, 9, i)
				if a != b || e != f || c != d || g != h || j != l || k != m {
					t.Error(n, rounds, i, a, e, b, f, c, g, d, h, j, k, l, m)
				}
			}
		}
	}
}
