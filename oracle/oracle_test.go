package oracle

import (
	"math"
	"math/rand"
	"slices"
	"testing"

	"mootbell/api"
	"mootbell/token"
)

const top = math.MaxUint64

// of is pairs, told as key, root, key, root ..
func of(words ...uint64) []api.Pair {
	var l []api.Pair
	for i := 0; i+1 < len(words); i += 2 {
		l = append(l, api.Pair{Key: words[i], Root: words[i+1]})
	}
	return l
}

// upTo is the pairs of keys 0 to many - 1, of one root.
func upTo(many int, root uint64) []api.Pair {
	var l []api.Pair
	for _, k := range keysUpTo(many) {
		l = append(l, api.Pair{Key: k, Root: root})
	}
	return l
}

func keysUpTo(many int) []uint64 {
	l := make([]uint64, many)
	for i := range l {
		l[i] = uint64(i)
	}
	return l
}

// swapped is l, of which the pairs at i and i + 1 have changed places.
func swapped(l []api.Pair, i int) []api.Pair {
	l = slices.Clone(l)
	l[i], l[i+1] = l[i+1], l[i]
	return l
}

// doubled is l, in which the pair at i stands once more.
func doubled(l []api.Pair, i int) []api.Pair { return slices.Insert(slices.Clone(l), i, l[i]) }

func rightTables() [][]api.Pair {
	return [][]api.Pair{
		nil, {}, of(0, 0), of(top, top), of(1, 7), of(1, 7, 1, 8), of(1, 8, 2, 7), of(1, top, 2, 0),
		of(0, 0, 1<<63-1, 0, 1<<63, 0, top, 0), of(3, 1<<63-1, 3, 1<<63, 3, top), of(1<<32, 0, 1<<32+1, 0),
		of(1, 2, 1, 5, 3, 0), of(1, 7, 2, 7, 2, 8, 4, 7), upTo(2049, 7), upTo(4095, 7), upTo(4096, 7),
	}
}

func wrongTables() [][]api.Pair {
	return [][]api.Pair{
		of(1, 7, 1, 7), of(2, 7, 1, 7), of(1, 8, 1, 7), of(2, 1, 1, 2), of(1, 0, 0, top), of(0, 0, 0, 0),
		of(1<<63, 0, 1<<63-1, 0), of(top, 0, 0, 0), of(3, 1<<63, 3, 1<<63-1), of(3, top, 3, 0), of(1<<32, 0, 1, 0),
		of(1, 7, 2, 7, 1, 7), of(1, 7, 3, 7, 2, 7), of(1, 7, 2, 7, 2, 7), of(1, 7, 1, 7, 2, 7),
		swapped(upTo(4096, 7), 0), swapped(upTo(4096, 7), 4094), doubled(upTo(4095, 7), 0), doubled(upTo(4095, 7), 4094),
		upTo(4097, 7), upTo(9000, 7), doubled(upTo(4096, 7), 4095),
	}
}

// addByInserting lays each pair that is not there ahead of the first one that it is ahead of.
func addByInserting(table []api.Pair, l ...api.Pair) []api.Pair {
	all := slices.Clone(table)
	for _, p := range l {
		if slices.Contains(all, p) {
			continue
		}
		at := slices.IndexFunc(all, func(q api.Pair) bool {
			return p.Key < q.Key || p.Key == q.Key && p.Root < q.Root
		})
		if at < 0 {
			at = len(all)
		}
		all = slices.Insert(all, at, p)
	}
	return all
}

// some is pairs of few keys and roots, so that many of them are alike.
func some(r *rand.Rand, most int) []api.Pair {
	l := make([]api.Pair, r.Intn(most+1))
	for i := range l {
		l[i] = api.Pair{Key: uint64(r.Intn(5)), Root: uint64(r.Intn(3))}
	}
	return l
}

func sign(t *testing.T, root uint64, keys ...uint64) api.Token {
	t.Helper()
	s, e := Sign(root, keys...)
	if e != api.OK {
		t.Fatalf("Sign of %d keys: error %d", len(keys), e)
	}
	return s
}

func forge(s api.Token) api.Token {
	s.Forged = true
	return s
}

func sameToken(a, b api.Token) bool { return a.Forged == b.Forged && slices.Equal(a.Pairs, b.Pairs) }

// item is that of keys and root, with what Sign tells of these.
func item(t *testing.T, root uint64, keys ...uint64) api.Item {
	t.Helper()
	return api.Item{Keys: keys, Root: root, Token: sign(t, root, keys...)}
}

// checkByWords follows G3's words one by one, and calls nothing of the package.
func checkByWords(table []api.Pair, it api.Item) bool {
	if it.Token.Forged || len(it.Keys) == 0 || len(it.Keys) > 2048 || len(it.Keys) != len(it.Token.Pairs) || len(table) > 4096 {
		return false
	}
	for i, p := range table {
		for _, q := range table[:i] {
			if q.Key > p.Key || q.Key == p.Key && q.Root >= p.Root {
				return false
			}
		}
	}
	keys := slices.Clone(it.Keys)
	slices.Sort(keys)
	for i, k := range keys {
		p := api.Pair{Key: k, Root: it.Root}
		if i > 0 && keys[i-1] == k || it.Token.Pairs[i] != p || !slices.Contains(table, p) {
			return false
		}
	}
	return true
}

// G1.

func TestRightTellsWhatMayBe(t *testing.T) {
	for i, table := range rightTables() {
		if !Right(table) {
			t.Errorf("right %d is none", i)
		}
	}
	for i, table := range wrongTables() {
		if Right(table) {
			t.Errorf("wrong %d is one", i)
		}
	}
}

func TestRightSeesEachPlace(t *testing.T) {
	for i := range 99 {
		if Right(swapped(upTo(100, 7), i)) || Right(doubled(upTo(100, 7), i)) {
			t.Errorf("a fault at %d is not seen", i)
		}
	}
}

func TestValidFindsWhatIsThere(t *testing.T) {
	for i, table := range rightTables() {
		for _, p := range table {
			if !Valid(table, p) {
				t.Errorf("%d: %v is not found", i, p)
			}
		}
	}
	for n := range 40 { // each place of tables of each length, and each gap
		var table []api.Pair
		for i := range n {
			table = append(table, api.Pair{Key: uint64(i/2) + 1, Root: uint64(i%2)*2 + 1})
		}
		for k := range uint64(23) {
			for root := range uint64(5) {
				p := api.Pair{Key: k, Root: root}
				if Valid(table, p) != slices.Contains(table, p) {
					t.Errorf("of %d: %v", n, p)
				}
			}
		}
	}
}

func TestValidFindsNothingElse(t *testing.T) {
	table := of(1, 7, 2, 7, 2, 9, 4, 7)
	for _, p := range of(0, 0, 0, 7, 1, 6, 1, 8, 1, 9, 2, 8, 2, 10, 3, 7, 4, 6, 4, 8, 7, 1, 7, 2, 5, 7, top, top) {
		if Valid(table, p) {
			t.Errorf("%v is found", p)
		}
	}
	for _, none := range [][]api.Pair{nil, {}} {
		if Valid(none, api.Pair{}) {
			t.Error("a table without pairs has one")
		}
	}
}

func TestValidAsksForARightTable(t *testing.T) {
	for i, table := range wrongTables() {
		for _, p := range []api.Pair{table[0], table[len(table)/2], table[len(table)-1], {Key: 5, Root: 5}} {
			if Valid(table, p) {
				t.Errorf("wrong %d has %v", i, p)
			}
		}
	}
}

func TestAddHasAllOnceInTheirOrder(t *testing.T) {
	for i, c := range []struct{ table, l, want []api.Pair }{
		{nil, nil, nil}, {of(1, 7), nil, of(1, 7)}, {nil, of(1, 7), of(1, 7)}, {of(1, 7), of(1, 7), of(1, 7)},
		{nil, of(1, 7, 1, 7, 1, 7), of(1, 7)}, {nil, of(2, 1, 1, 2), of(1, 2, 2, 1)}, {of(1, 8), of(1, 7), of(1, 7, 1, 8)},
		{of(1, 7), of(1, 8), of(1, 7, 1, 8)}, {of(0, 0), of(top, top, top, 0), of(0, 0, top, 0, top, top)},
		{of(1<<63, 0), of(1<<63-1, 0), of(1<<63-1, 0, 1<<63, 0)},
		{of(1, 2, 1, 5, 3, 0), of(1, 3, 0, 9, 3, 0, 0, 9), of(0, 9, 1, 2, 1, 3, 1, 5, 3, 0)},
	} {
		if got, e := Add(c.table, c.l...); !slices.Equal(got, c.want) || e != api.OK {
			t.Errorf("%d: %v, %d, want %v", i, got, e, c.want)
		}
	}
	r := rand.New(rand.NewSource(1))
	for range 2000 {
		table, l := addByInserting(nil, some(r, 8)...), some(r, 8)
		got, e := Add(table, l...)
		if want := addByInserting(table, l...); !slices.Equal(got, want) || e != api.OK || !Right(got) {
			t.Fatalf("Add(%v, %v) = %v, %d, want %v", table, l, got, e, want)
		}
	}
}

func TestAddRefusesATableThatIsNotRight(t *testing.T) {
	for i, table := range wrongTables() {
		for _, l := range [][]api.Pair{nil, of(1, 7), table, upTo(4097, 3)} { // ahead of ErrLong
			if got, e := Add(table, l...); len(got) != 0 || e != api.ErrArg {
				t.Errorf("wrong %d: %d pairs, error %d", i, len(got), e)
			}
		}
	}
}

func TestAddHasAtMostSoMany(t *testing.T) {
	full := upTo(4096, 7)
	for i, c := range []struct {
		table, l []api.Pair
		want     int
	}{
		{full, nil, 4096}, {full, full, 4096}, {full, of(5, 7), 4096}, {full, of(5, 8), 0}, {full, of(0, 0), 0}, {full, of(top, top), 0},
		{full[:4095], of(9999, 1), 4096}, {full[:4095], of(9999, 1, 9999, 1, 3, 7), 4096}, {full[:4095], of(9999, 1, 9999, 2), 0},
		{nil, full, 4096}, {nil, upTo(4097, 7), 0}, {nil, slices.Repeat(of(1, 7), 9000), 1}, {nil, slices.Repeat(full, 3), 4096},
		{upTo(2048, 7), upTo(2048, 8), 4096}, {upTo(2048, 7), upTo(2049, 8), 0}, {upTo(2049, 7), upTo(4096, 7), 4096},
	} {
		got, e := Add(c.table, c.l...)
		if c.want == 0 && (len(got) != 0 || e != api.ErrLong) || c.want != 0 && (len(got) != c.want || e != api.OK || !Right(got)) {
			t.Errorf("%d: %d pairs, error %d", i, len(got), e)
		}
	}
}

// G2.

func TestSignIsThePairsOfKeysAndRoot(t *testing.T) {
	for i, c := range []struct {
		root uint64
		keys []uint64
		want []api.Pair
	}{
		{7, nil, nil}, {7, []uint64{1}, of(1, 7)}, {0, []uint64{0}, of(0, 0)}, {top, []uint64{top}, of(top, top)},
		{7, []uint64{2, 1}, of(1, 7, 2, 7)}, {8, []uint64{3, 1, 2}, of(1, 8, 2, 8, 3, 8)}, {7, []uint64{1, 1}, of(1, 7, 1, 7)},
		{7, []uint64{2, 1, 2, 0, 2}, of(0, 7, 1, 7, 2, 7, 2, 7, 2, 7)}, {1, []uint64{top, 1 << 63, 0, 1<<63 - 1}, of(0, 1, 1<<63-1, 1, 1<<63, 1, top, 1)},
	} {
		if got, e := Sign(c.root, c.keys...); !sameToken(got, api.Token{Pairs: c.want}) || e != api.OK || !token.Right(got) {
			t.Errorf("%d: %v, %d, want %v", i, got, e, c.want)
		}
	}
}

func TestSignHasAtMostSoManyKeys(t *testing.T) {
	for _, n := range []int{2047, 2048} {
		keys := keysUpTo(n)
		slices.Reverse(keys)
		if got, e := Sign(7, keys...); !sameToken(got, api.Token{Pairs: upTo(n, 7)}) || e != api.OK {
			t.Errorf("%d: %d pairs, error %d", n, len(got.Pairs), e)
		}
		if got, e := Sign(7, make([]uint64, n)...); len(got.Pairs) != n || got.Forged || e != api.OK {
			t.Errorf("%d alike: %d pairs, error %d", n, len(got.Pairs), e)
		}
	}
	for _, n := range []int{2049, 4096, 100000} {
		for _, keys := range [][]uint64{keysUpTo(n), make([]uint64, n)} {
			if got, e := Sign(7, keys...); !sameToken(got, api.Token{}) || e != api.ErrLong {
				t.Errorf("%d: %d pairs, error %d", n, len(got.Pairs), e)
			}
		}
	}
}

// G3.

func TestCheckOfTheExample(t *testing.T) {
	table := of(1, 7, 2, 7)
	it := item(t, 7, 2, 1)
	if !Check(table, it) {
		t.Error("keys 2 and 1, root 7: false")
	}
	it.Root = 8
	if Check(table, it) {
		t.Error("root 8: true")
	}
	if it = item(t, 7, 2, 1); Check(table, api.Item{Keys: []uint64{1}, Root: 7, Token: it.Token}) {
		t.Error("key 1 alone: true")
	}
}

func TestCheckAsksForEachOfItsWords(t *testing.T) {
	table := of(1, 7, 2, 7, 2, 8, 4, 7)
	for i, c := range []struct {
		keys []uint64
		root uint64
		s    api.Token
		want bool
	}{
		{[]uint64{1}, 7, sign(t, 7, 1), true}, {[]uint64{4, 1, 2}, 7, sign(t, 7, 2, 4, 1), true}, {[]uint64{2}, 8, sign(t, 8, 2), true},
		{nil, 7, api.Token{}, false}, {nil, 7, sign(t, 7), false}, {nil, 7, sign(t, 7, 1), false}, {[]uint64{}, 7, api.Token{}, false},
		{[]uint64{1, 1}, 7, sign(t, 7, 1, 1), false}, {[]uint64{1, 1}, 7, sign(t, 7, 1), false}, {[]uint64{1, 2, 1}, 7, sign(t, 7, 1, 1, 2), false},
		{[]uint64{1}, 7, forge(sign(t, 7, 1)), false}, {[]uint64{4, 1, 2}, 7, forge(sign(t, 7, 2, 4, 1)), false}, {nil, 7, forge(api.Token{}), false},
		{[]uint64{1}, 7, api.Token{}, false}, {[]uint64{1}, 7, sign(t, 7, 1, 1), false}, {[]uint64{1}, 7, sign(t, 7, 2), false},
		{[]uint64{1}, 7, sign(t, 7, 1, 2), false}, {[]uint64{1, 2}, 7, sign(t, 7, 1), false}, {[]uint64{2}, 7, sign(t, 8, 2), false},
		{[]uint64{2}, 8, sign(t, 7, 2), false}, {[]uint64{1, 2}, 7, api.Token{Pairs: of(1, 7, 2, 8)}, false},
		{[]uint64{1, 2}, 7, api.Token{Pairs: of(2, 7, 1, 7)}, false}, {[]uint64{2, 1}, 7, api.Token{Pairs: of(2, 7, 1, 7)}, false},
		{[]uint64{3}, 7, sign(t, 7, 3), false}, {[]uint64{1}, 8, sign(t, 8, 1), false}, {[]uint64{1, 2, 3}, 7, sign(t, 7, 1, 2, 3), false},
		{[]uint64{0, 1}, 7, sign(t, 7, 0, 1), false}, {[]uint64{4, 5}, 7, sign(t, 7, 4, 5), false}, {[]uint64{1, 2}, 8, sign(t, 8, 1, 2), false},
	} {
		it := api.Item{Keys: c.keys, Root: c.root, Token: c.s}
		if got := Check(table, it); got != c.want || got != checkByWords(table, it) {
			t.Errorf("%d: %v", i, got)
		}
		if Check(nil, it) {
			t.Errorf("%d: true without a table", i)
		}
	}
}

func TestCheckAsksForARightTable(t *testing.T) {
	for i, table := range wrongTables() {
		for _, p := range []api.Pair{table[0], table[len(table)-1]} {
			if Check(table, item(t, p.Root, p.Key)) {
				t.Errorf("wrong %d: %v checks", i, p)
			}
		}
	}
	for i, table := range rightTables() {
		for _, p := range table {
			if !Check(table, item(t, p.Root, p.Key)) {
				t.Errorf("right %d: %v does not check", i, p)
			}
		}
	}
}

func TestCheckOfVeryManyKeys(t *testing.T) {
	table := upTo(4096, 7)
	if !Check(table, item(t, 7, keysUpTo(2048)...)) {
		t.Error("2048 keys do not check")
	}
	if Check(table[:2047], item(t, 7, keysUpTo(2048)...)) || Check(table[1:], item(t, 7, keysUpTo(2048)...)) {
		t.Error("a pair that is not there checks")
	}
	for _, s := range []api.Token{{}, {Pairs: upTo(2048, 7)}, {Pairs: upTo(2049, 7)}} {
		if Check(table, api.Item{Keys: keysUpTo(2049), Root: 7, Token: s}) {
			t.Errorf("2049 keys check, with %d pairs", len(s.Pairs))
		}
	}
	keys := append(keysUpTo(2047), 0)
	if Check(table, item(t, 7, keys...)) {
		t.Error("a key that stands twice, far off, checks")
	}
}

// someItem is an item of few keys and roots, often with something wrong.
func someItem(r *rand.Rand) api.Item {
	it := api.Item{Root: uint64(r.Intn(3))}
	for range r.Intn(4) {
		it.Keys = append(it.Keys, uint64(r.Intn(5)))
	}
	it.Token, _ = Sign(it.Root, it.Keys...)
	switch r.Intn(8) {
	case 0:
		it.Token.Forged = true
	case 1:
		it.Root++
	case 2:
		it.Token.Pairs = some(r, 4)
	case 3:
		it.Keys = append(it.Keys, uint64(r.Intn(5)))
	case 4:
		r.Shuffle(len(it.Keys), func(i, j int) { it.Keys[i], it.Keys[j] = it.Keys[j], it.Keys[i] })
	}
	return it
}

func TestCheckIsWhatItsWordsSay(t *testing.T) {
	r := rand.New(rand.NewSource(2))
	told := map[bool]int{}
	for range 20000 {
		table := addByInserting(nil, some(r, 25)...)
		if r.Intn(10) == 0 {
			table = some(r, 5)
		}
		it := someItem(r)
		got := Check(table, it)
		told[got]++
		if got != checkByWords(table, it) {
			t.Fatalf("Check(%v, %v) = %v", table, it, got)
		}
	}
	if told[true] < 1000 || told[false] < 1000 {
		t.Errorf("%v: too little is tried", told)
	}
}

func TestAllIsCheckOfEach(t *testing.T) {
	table := of(1, 7, 2, 7, 2, 8, 4, 7)
	good, other, bad := item(t, 7, 1, 4), item(t, 8, 2), item(t, 7, 3)
	for i, c := range []struct {
		l    []api.Item
		want bool
	}{
		{nil, true}, {[]api.Item{good}, true}, {[]api.Item{good, other}, true}, {[]api.Item{good, good, good}, true},
		{[]api.Item{bad}, false}, {[]api.Item{bad, good}, false}, {[]api.Item{good, bad}, false}, {[]api.Item{good, bad, other}, false},
		{[]api.Item{{}}, false}, {[]api.Item{good, {}}, false}, {[]api.Item{bad, bad}, false},
	} {
		if All(table, c.l...) != c.want {
			t.Errorf("%d: %v", i, !c.want)
		}
	}
	for at := range 8 { // a wrong one at each place
		l := slices.Repeat([]api.Item{good}, 8)
		l[at].Token = forge(l[at].Token)
		if All(table, l...) {
			t.Errorf("the wrong one at %d is not seen", at)
		}
	}
}

func TestAllOfNoItemsHoldsByAnyTable(t *testing.T) {
	for i, table := range append(rightTables(), wrongTables()...) {
		if !All(table) {
			t.Errorf("%d: false", i)
		}
	}
	for i, table := range wrongTables() {
		if All(table, item(t, table[0].Root, table[0].Key)) {
			t.Errorf("wrong %d: true", i)
		}
	}
}

// G4.

// sets calls f with each list of keys 0 to 4 in which they rise.
func sets(f func(keys []uint64)) {
	for set := range 32 {
		var keys []uint64
		for k := range 5 {
			if set>>k&1 == 1 {
				keys = append(keys, uint64(k))
			}
		}
		f(keys)
	}
}

func TestATokenChecksForOneRootAndOneSetOfKeys(t *testing.T) {
	table, _ := Add(upTo(5, 7), upTo(5, 8)...)
	sets(func(keys []uint64) {
		s := sign(t, 7, keys...)
		sets(func(others []uint64) {
			slices.Reverse(others)
			for _, root := range []uint64{6, 7, 8} {
				it := api.Item{Keys: others, Root: root, Token: s}
				slices.Sort(others)
				want := root == 7 && len(keys) > 0 && slices.Equal(keys, others)
				slices.Reverse(others)
				if Check(table, it) != want {
					t.Errorf("token of %v, asked for %v, root %d: %v", keys, others, root, !want)
				}
			}
		})
	})
}

func TestCheckDoesNotHangOnTheOrderOfKeys(t *testing.T) {
	r := rand.New(rand.NewSource(3))
	table := upTo(20, 7)
	it := item(t, 7, keysUpTo(20)...)
	for range 200 {
		r.Shuffle(20, func(i, j int) { it.Keys[i], it.Keys[j] = it.Keys[j], it.Keys[i] })
		if !Check(table, it) || !sameToken(sign(t, 7, it.Keys...), it.Token) {
			t.Fatalf("%v: false", it.Keys)
		}
	}
}

func TestWhatIsForgedNeverChecks(t *testing.T) {
	r := rand.New(rand.NewSource(4))
	table, _ := Add(upTo(5, 0), append(upTo(5, 1), upTo(5, 2)...)...)
	for range 2000 {
		it := someItem(r)
		it.Token.Forged = true
		if Check(table, it) || All(table, it) {
			t.Fatalf("%v checks", it)
		}
	}
}

func TestWhatChecksChecksByAGreaterTable(t *testing.T) {
	r := rand.New(rand.NewSource(5))
	checked := 0
	for range 20000 {
		table := addByInserting(nil, some(r, 25)...)
		it := someItem(r)
		if !Check(table, it) {
			continue
		}
		checked++
		more, e := Add(table, some(r, 25)...)
		if e != api.OK || !Check(more, it) {
			t.Fatalf("%v checks by %v, not by %v", it, table, more)
		}
		if least, e := Add(nil, it.Token.Pairs...); e != api.OK || !Check(least, it) {
			t.Fatalf("%v does not check by its own pairs", it)
		}
	}
	if checked < 1000 {
		t.Errorf("%d checked: too little is tried", checked)
	}
}

func TestWhatIsMergedChecksForAll(t *testing.T) {
	table := upTo(5, 7)
	sets(func(a []uint64) {
		sets(func(b []uint64) {
			if len(a) == 0 || len(b) == 0 {
				return
			}
			both, e := token.Merge(sign(t, 7, a...), sign(t, 7, b...))
			if e != api.OK {
				t.Fatalf("error %d", e)
			}
			apart := !slices.ContainsFunc(a, func(k uint64) bool { return slices.Contains(b, k) })
			it := api.Item{Keys: slices.Concat(b, a), Root: 7, Token: both}
			if Check(table, it) != apart {
				t.Errorf("%v and %v: %v", a, b, !apart)
			}
		})
	})
}

// R3.

func TestWhatIsHandedInIsLeftAsItWas(t *testing.T) {
	table, l, keys, pairs := of(1, 7, 2, 7, 9, 9), of(2, 8, 0, 0, 9, 9), []uint64{2, 1, 99}, of(1, 7, 2, 7, 9, 9)
	it := api.Item{Keys: keys[:2], Root: 7, Token: api.Token{Pairs: pairs[:2]}}
	Right(table[:2])
	Valid(table[:2], l[0])
	Add(table[:2], l[:2]...)
	Add(table[:2])
	Add(nil, l[:2]...)
	Sign(7, keys[:2]...)
	if !Check(table[:2], it) || !All(table[:2], it, it) {
		t.Error("does not check")
	}
	if !slices.Equal(table, of(1, 7, 2, 7, 9, 9)) || !slices.Equal(l, of(2, 8, 0, 0, 9, 9)) || !slices.Equal(keys, []uint64{2, 1, 99}) || !slices.Equal(pairs, of(1, 7, 2, 7, 9, 9)) {
		t.Errorf("became %v, %v, %v, %v", table, l, keys, pairs)
	}
}

func TestAnswersAreNewMemory(t *testing.T) {
	table, l := of(1, 7, 2, 7), of(3, 7, 4, 7)
	for i, ask := range []func() []api.Pair{
		func() []api.Pair { a, _ := Add(table); return a },
		func() []api.Pair { a, _ := Add(table, table...); return a },
		func() []api.Pair { a, _ := Add(nil, l...); return a },
		func() []api.Pair { a, _ := Add(table, l...); return a },
		func() []api.Pair { return sign(t, 7, 1, 2, 3).Pairs },
		func() []api.Pair { return sign(t, 7, 1).Pairs },
	} {
		got, other := ask(), ask()
		was := slices.Clone(other)
		got = got[:cap(got)]
		for j := range got {
			got[j] = api.Pair{Key: 99, Root: 99}
		}
		if !slices.Equal(other, was) || !slices.Equal(ask(), was) || !slices.Equal(table, of(1, 7, 2, 7)) || !slices.Equal(l, of(3, 7, 4, 7)) {
			t.Errorf("%d: what was written into one answer stands elsewhere, too", i)
		}
	}
}

// R4.

func TestTheSameIsAnsweredForTheSame(t *testing.T) {
	r := rand.New(rand.NewSource(6))
	for range 2000 {
		table, l, it := some(r, 5), some(r, 5), someItem(r)
		a, d := Add(table, l...)
		b, e := Add(table, l...)
		if !slices.Equal(a, b) || d != e || Check(table, it) != Check(table, it) || Right(table) != Right(table) {
			t.Fatalf("%v, %v, %v: two answers", table, l, it)
		}
	}
}
