package seen

import (
	"math"
	"math/rand"
	"slices"
	"testing"

	"mootbell/api"
)

// of is marks, by three numbers each.
func of(numbers ...int) []api.Mark {
	var l []api.Mark
	for i := 0; i < len(numbers); i += 3 {
		l = append(l, api.Mark{Epoch: numbers[i], Kind: numbers[i+1], Who: numbers[i+2]})
	}
	return l
}

func one(epoch, kind, who int) api.Mark { return of(epoch, kind, who)[0] }

// someRight is marks that are right.
func someRight() [][]api.Mark {
	return [][]api.Mark{
		nil,
		{},
		of(0, 0, 0),
		of(2, 1, 4, 3, 0, 0),
		of(0, 0, 3, 0, 1, 0, 1, 0, 0, 1, 0, 9, 4, 2, 1),
		// Ahead by one number, though others are greater.
		of(0, 9, 9, 1, 0, 0),
		of(1, 0, 9, 1, 1, 0),
		of(1, 1, 0, 1, 1, 9),
		of(0, 0, 0, 0, 0, 1, 0, 1, 0, 0, 1, 1, 1, 0, 0, 1, 0, 1, 1, 1, 0, 1, 1, 1),
		of(0, 0, math.MaxInt, 0, math.MaxInt, 0, math.MaxInt, 0, 0, math.MaxInt, math.MaxInt, math.MaxInt),
	}
}

// someWrong is marks that are not right.
func someWrong() [][]api.Mark {
	return [][]api.Mark{
		of(-1, 0, 0),
		of(0, -1, 0),
		of(0, 0, -1),
		of(math.MinInt, 0, 0),
		of(0, math.MinInt, 0),
		of(0, 0, math.MinInt),
		of(-1, 0, 0, 2, 1, 4),
		of(1, -1, 0, 2, 1, 4),
		of(1, 0, -1, 2, 1, 4),
		of(2, 1, 4, 3, -1, 0),
		of(2, 1, 4, 3, 0, -1),
		of(2, 1, 4, 2, 1, 4),
		of(0, 0, 0, 0, 0, 0),
		of(2, 1, 4, 1, 1, 4),
		of(2, 1, 4, 2, 0, 4),
		of(2, 1, 4, 2, 1, 3),
		of(2, 1, 4, 1, 9, 9),
		of(2, 1, 4, 2, 0, 9),
		of(1, 0, 0, 0, 9, 9),
		of(1, 1, 0, 1, 0, 9),
		// Wrong only at the beginning, in the middle, at the end.
		of(5, 0, 0, 1, 0, 0, 2, 0, 0, 3, 0, 0, 4, 0, 0),
		of(1, 0, 0, 2, 0, 0, 2, 0, 0, 3, 0, 0, 4, 0, 0),
		of(1, 0, 0, 2, 0, 0, 3, 0, 0, 4, 0, 0, 4, 0, 0),
		of(1, 0, 0, 3, 0, 0, 2, 0, 0, 4, 0, 0),
		of(1, 0, 0, 2, 0, 0, 3, 0, 0, 4, 0, -1),
		// Two are alike, though not those that stand side by side.
		of(1, 0, 0, 2, 0, 0, 1, 0, 0),
		// The difference of these is above the greatest int.
		of(math.MaxInt, 0, 0, math.MinInt, 0, 0),
		of(math.MinInt, 0, 0, math.MaxInt, 0, 0),
	}
}

// someMarks is marks to be asked for, or added.
func someMarks() []api.Mark {
	var l []api.Mark
	numbers := []int{math.MinInt, -1, 0, 1, 2, 4, 9, math.MaxInt}
	for _, epoch := range numbers {
		for _, kind := range numbers {
			for _, who := range numbers {
				l = append(l, one(epoch, kind, who))
			}
		}
	}
	return l
}

// What follows tells each call by its promise's words, mark by mark.

func below0(m api.Mark) bool { return m.Epoch < 0 || m.Kind < 0 || m.Who < 0 }

func isAhead(a, b api.Mark) bool {
	if a.Epoch != b.Epoch {
		return a.Epoch < b.Epoch
	}
	if a.Kind != b.Kind {
		return a.Kind < b.Kind
	}
	return a.Who < b.Who
}

func rightByWords(l []api.Mark) bool {
	for i := range l {
		if below0(l[i]) {
			return false
		}
		for j := i + 1; j < len(l); j++ {
			if !isAhead(l[i], l[j]) {
				return false
			}
		}
	}
	return true
}

func inByWords(l []api.Mark, m api.Mark) bool {
	for _, x := range l {
		if x.Epoch == m.Epoch && x.Kind == m.Kind && x.Who == m.Who {
			return true
		}
	}
	return false
}

func addByWords(l []api.Mark, room int, m api.Mark) ([]api.Mark, api.Errno) {
	if !rightByWords(l) || below0(m) {
		return nil, api.ErrArg
	}
	if inByWords(l, m) {
		return nil, api.ErrTwice
	}
	if len(l) >= room {
		return nil, api.ErrFull
	}
	var all []api.Mark
	for _, x := range l {
		if isAhead(x, m) {
			all = append(all, x)
		}
	}
	all = append(all, m)
	for _, x := range l {
		if isAhead(m, x) {
			all = append(all, x)
		}
	}
	return all, api.OK
}

func pruneByWords(l []api.Mark, epoch int) []api.Mark {
	var kept []api.Mark
	for _, m := range l {
		if rightByWords(l) && m.Epoch >= epoch {
			kept = append(kept, m)
		}
	}
	return kept
}

func ofByWords(l []api.Mark, epoch, kind int) []int {
	var whose []int
	for _, m := range l {
		if rightByWords(l) && m.Epoch == epoch && m.Kind == kind {
			whose = append(whose, m.Who)
		}
	}
	return whose
}

// checkAll holds all that is told of marks, and of one mark, against the words.
func checkAll(t *testing.T, l []api.Mark, m api.Mark) {
	t.Helper()
	if is, want := Right(l), rightByWords(l); is != want {
		t.Fatalf("Right of %v: %t", l, is)
	}
	if is, want := Has(l, m), rightByWords(l) && inByWords(l, m); is != want {
		t.Fatalf("Has of %v, %v: %t", l, m, is)
	}
	for _, room := range []int{math.MinInt, -1, 0, 1, len(l) - 1, len(l), len(l) + 1, math.MaxInt} {
		a, e := Add(l, room, m)
		if want, f := addByWords(l, room, m); !slices.Equal(a, want) || e != f {
			t.Fatalf("Add to %v, room %d, of %v: %v, error %d; asked for: %v, error %d", l, room, m, a, e, want, f)
		}
	}
	if a, want := Prune(l, m.Epoch), pruneByWords(l, m.Epoch); !slices.Equal(a, want) {
		t.Fatalf("Prune of %v, epoch %d: %v; asked for: %v", l, m.Epoch, a, want)
	}
	if a, want := Of(l, m.Epoch, m.Kind), ofByWords(l, m.Epoch, m.Kind); !slices.Equal(a, want) {
		t.Fatalf("Of of %v, epoch %d, kind %d: %v; asked for: %v", l, m.Epoch, m.Kind, a, want)
	}
}

// mustAdd adds marks in their order, with room for them.
func mustAdd(t *testing.T, l []api.Mark, marks ...api.Mark) []api.Mark {
	t.Helper()
	for _, m := range marks {
		next, e := Add(l, len(l)+1, m)
		if e != api.OK {
			t.Fatalf("Add to %v of %v: error %d", l, m, e)
		}
		l = next
	}
	return l
}

// M1.

func TestRight(t *testing.T) {
	for _, l := range someRight() {
		if !Right(l) {
			t.Errorf("not Right: %v", l)
		}
	}
	for _, l := range someWrong() {
		if Right(l) {
			t.Errorf("Right: %v", l)
		}
	}
}

func TestHas(t *testing.T) {
	for _, l := range someRight() {
		for _, m := range l {
			if !Has(l, m) {
				t.Errorf("%v has no %v", l, m)
			}
		}
		for _, m := range someMarks() {
			if is := Has(l, m); is != slices.Contains(l, m) {
				t.Errorf("Has of %v, %v: %t", l, m, is)
			}
		}
	}
	// What stands in marks that are not right is not there.
	for _, l := range someWrong() {
		for _, m := range append(someMarks(), l...) {
			if Has(l, m) {
				t.Errorf("%v, which is not right, has %v", l, m)
			}
		}
	}
}

func TestKnownAdds(t *testing.T) {
	for _, x := range []struct {
		l    []api.Mark
		room int
		m    api.Mark
		want []api.Mark
		e    api.Errno
	}{
		{nil, 1, one(0, 0, 0), of(0, 0, 0), api.OK},
		{nil, math.MaxInt, one(math.MaxInt, math.MaxInt, math.MaxInt), of(math.MaxInt, math.MaxInt, math.MaxInt), api.OK},
		{nil, 0, one(0, 0, 0), nil, api.ErrFull},
		{nil, -1, one(0, 0, 0), nil, api.ErrFull},
		{nil, math.MinInt, one(0, 0, 0), nil, api.ErrFull},
		// The chapter's example.
		{of(2, 1, 4, 3, 0, 0), 3, one(2, 1, 5), of(2, 1, 4, 2, 1, 5, 3, 0, 0), api.OK},
		{of(2, 1, 4, 3, 0, 0), 2, one(2, 1, 5), nil, api.ErrFull},
		{of(2, 1, 4, 3, 0, 0), 1, one(2, 1, 5), nil, api.ErrFull},
		{of(2, 1, 4, 3, 0, 0), -1, one(2, 1, 5), nil, api.ErrFull},
		// Ahead of all, and behind all.
		{of(2, 1, 4, 3, 0, 0), 3, one(2, 1, 3), of(2, 1, 3, 2, 1, 4, 3, 0, 0), api.OK},
		{of(2, 1, 4, 3, 0, 0), 3, one(2, 0, 9), of(2, 0, 9, 2, 1, 4, 3, 0, 0), api.OK},
		{of(2, 1, 4, 3, 0, 0), 3, one(1, 9, 9), of(1, 9, 9, 2, 1, 4, 3, 0, 0), api.OK},
		{of(2, 1, 4, 3, 0, 0), 3, one(3, 0, 1), of(2, 1, 4, 3, 0, 0, 3, 0, 1), api.OK},
		{of(2, 1, 4, 3, 0, 0), 3, one(3, 1, 0), of(2, 1, 4, 3, 0, 0, 3, 1, 0), api.OK},
		{of(2, 1, 4, 3, 0, 0), 3, one(4, 0, 0), of(2, 1, 4, 3, 0, 0, 4, 0, 0), api.OK},
		{of(2, 1, 4, 3, 0, 0), 3, one(2, 2, 0), of(2, 1, 4, 2, 2, 0, 3, 0, 0), api.OK},
		// It is there, also where there is no room.
		{of(2, 1, 4, 3, 0, 0), 3, one(2, 1, 4), nil, api.ErrTwice},
		{of(2, 1, 4, 3, 0, 0), 2, one(2, 1, 4), nil, api.ErrTwice},
		{of(2, 1, 4, 3, 0, 0), 0, one(3, 0, 0), nil, api.ErrTwice},
		{of(2, 1, 4, 3, 0, 0), -1, one(3, 0, 0), nil, api.ErrTwice},
		// It may not be, also where there is no room.
		{of(2, 1, 4, 3, 0, 0), 3, one(-1, 0, 0), nil, api.ErrArg},
		{of(2, 1, 4, 3, 0, 0), 3, one(3, -1, 0), nil, api.ErrArg},
		{of(2, 1, 4, 3, 0, 0), 3, one(3, 0, -1), nil, api.ErrArg},
		{of(2, 1, 4, 3, 0, 0), 2, one(3, 0, -1), nil, api.ErrArg},
		{of(2, 1, 4, 3, 0, 0), -1, one(math.MinInt, 0, 0), nil, api.ErrArg},
		{nil, 0, one(0, math.MinInt, 0), nil, api.ErrArg},
		// They are not right, also where the mark is there, or there is no room.
		{of(3, 0, 0, 2, 1, 4), 9, one(2, 1, 5), nil, api.ErrArg},
		{of(3, 0, 0, 2, 1, 4), 9, one(3, 0, 0), nil, api.ErrArg},
		{of(3, 0, 0, 2, 1, 4), 2, one(2, 1, 5), nil, api.ErrArg},
		{of(3, 0, 0, 3, 0, 0), 0, one(3, 0, 0), nil, api.ErrArg},
		{of(-1, 0, 0), 9, one(-1, 0, 0), nil, api.ErrArg},
	} {
		a, e := Add(x.l, x.room, x.m)
		if !slices.Equal(a, x.want) || e != x.e {
			t.Errorf("Add to %v, room %d, of %v: %v, error %d; asked for: %v, error %d", x.l, x.room, x.m, a, e, x.want, x.e)
		}
	}
}

func TestNothingIsAddedToWhatIsNotRight(t *testing.T) {
	for _, l := range someWrong() {
		for _, m := range append(someMarks(), l...) {
			for _, room := range []int{math.MinInt, 0, len(l), len(l) + 1, math.MaxInt} {
				if a, e := Add(l, room, m); len(a) > 0 || e != api.ErrArg {
					t.Fatalf("Add to %v, room %d, of %v: %v, error %d", l, room, m, a, e)
				}
			}
		}
	}
}

// M1 and M2.

func TestAllByWords(t *testing.T) {
	for _, l := range append(someRight(), someWrong()...) {
		for _, m := range append(someMarks(), l...) {
			checkAll(t, l, m)
		}
	}
}

func TestAllShortOnesByWords(t *testing.T) {
	var each []api.Mark
	for _, epoch := range []int{-1, 0, 1} {
		for _, kind := range []int{-1, 0, 1} {
			for _, who := range []int{-1, 0, 1} {
				each = append(each, one(epoch, kind, who))
			}
		}
	}
	for _, a := range each {
		for _, m := range each {
			checkAll(t, []api.Mark{a}, m)
		}
		for _, b := range each {
			for _, m := range each {
				checkAll(t, []api.Mark{a, b}, m)
			}
		}
	}
}

// randomMarks is marks in order, of small numbers; now and then two are alike.
func randomMarks(r *rand.Rand) []api.Mark {
	l := make([]api.Mark, r.Intn(30))
	for i := range l {
		l[i] = one(r.Intn(4), r.Intn(3), r.Intn(20))
	}
	slices.SortFunc(l, func(a, b api.Mark) int {
		if isAhead(a, b) {
			return -1
		}
		return 1
	})
	if r.Intn(5) > 0 {
		l = slices.Compact(l)
	}
	return l
}

func TestManyByWords(t *testing.T) {
	r := rand.New(rand.NewSource(13))
	for range 5000 {
		l := randomMarks(r)
		checkAll(t, l, one(r.Intn(6)-1, r.Intn(5)-1, r.Intn(22)-1))
		if len(l) > 0 {
			checkAll(t, l, l[r.Intn(len(l))])
		}
		// Two that change places, which may be one.
		if len(l) > 1 {
			i, j := r.Intn(len(l)), r.Intn(len(l))
			l[i], l[j] = l[j], l[i]
			checkAll(t, l, l[i])
		}
	}
}

// M2.

func TestKnownPrunes(t *testing.T) {
	l := of(0, 0, 3, 0, 1, 0, 1, 0, 0, 1, 0, 9, 4, 2, 1)
	for _, x := range []struct {
		epoch int
		want  []api.Mark
	}{
		{math.MinInt, l}, {-1, l}, {0, l}, {1, l[2:]}, {2, l[4:]}, {3, l[4:]}, {4, l[4:]}, {5, nil}, {math.MaxInt, nil},
	} {
		if a := Prune(l, x.epoch); !slices.Equal(a, x.want) {
			t.Errorf("Prune of %v, epoch %d: %v; asked for: %v", l, x.epoch, a, x.want)
		}
	}
	if a := Prune(of(1, 0, 0, math.MaxInt, 0, 0), math.MaxInt); !slices.Equal(a, of(math.MaxInt, 0, 0)) {
		t.Errorf("of the last epoch: %v", a)
	}
	for _, l := range append(someWrong(), nil, []api.Mark{}) {
		for _, epoch := range []int{math.MinInt, -1, 0, 1, math.MaxInt} {
			if a := Prune(l, epoch); len(a) > 0 {
				t.Errorf("Prune of %v, epoch %d: %v", l, epoch, a)
			}
		}
	}
}

func TestKnownOfs(t *testing.T) {
	l := of(0, 0, 3, 0, 1, 0, 1, 0, 0, 1, 0, 9, 1, 1, 7, 4, 2, 1)
	for _, x := range []struct {
		epoch, kind int
		want        []int
	}{
		{0, 0, []int{3}}, {0, 1, []int{0}}, {0, 2, nil}, {1, 0, []int{0, 9}}, {1, 1, []int{7}}, {1, 2, nil}, {2, 0, nil}, {4, 2, []int{1}}, {4, 0, nil}, {5, 2, nil},
		{-1, 0, nil}, {1, -1, nil}, {math.MinInt, math.MinInt, nil}, {math.MaxInt, math.MaxInt, nil},
	} {
		if a := Of(l, x.epoch, x.kind); !slices.Equal(a, x.want) {
			t.Errorf("Of of %v, epoch %d, kind %d: %v; asked for: %v", l, x.epoch, x.kind, a, x.want)
		}
	}
	if a := Of(of(5, 1, 0, 5, 1, math.MaxInt), 5, 1); !slices.Equal(a, []int{0, math.MaxInt}) {
		t.Errorf("the least and the greatest: %v", a)
	}
	for _, l := range append(someWrong(), nil, []api.Mark{}) {
		for _, m := range append(someMarks(), l...) {
			if a := Of(l, m.Epoch, m.Kind); len(a) > 0 {
				t.Errorf("Of of %v, epoch %d, kind %d: %v", l, m.Epoch, m.Kind, a)
			}
		}
	}
}

// M3.

func TestEachIsAddedOnceUntilItIsPruned(t *testing.T) {
	all := someRight()[4]
	l := mustAdd(t, nil, all...)
	for _, m := range all {
		if a, e := Add(l, 99, m); len(a) > 0 || e != api.ErrTwice || !Has(l, m) {
			t.Errorf("%v once more: %v, error %d", m, a, e)
		}
	}
	pruned := Prune(l, 1)
	for _, m := range all {
		want := api.ErrTwice
		if m.Epoch < 1 {
			want = api.OK
		}
		if _, e := Add(pruned, 99, m); e != want || Has(pruned, m) != (want == api.ErrTwice) {
			t.Errorf("%v once more, after it was pruned: error %d, asked for %d", m, e, want)
		}
	}
	if a := mustAdd(t, pruned, all[1], all[0]); !slices.Equal(a, all) {
		t.Errorf("all once more: %v", a)
	}
}

func TestMarksDoNotHangOnTheirOrder(t *testing.T) {
	r := rand.New(rand.NewSource(31))
	for range 300 {
		all := slices.Compact(randomMarks(r))
		want := mustAdd(t, nil, all...)
		if !slices.Equal(want, all) || !Right(want) {
			t.Fatalf("in order: %v; asked for: %v", want, all)
		}
		mixed := slices.Clone(all)
		r.Shuffle(len(mixed), func(i, j int) { mixed[i], mixed[j] = mixed[j], mixed[i] })
		if a := mustAdd(t, nil, mixed...); !slices.Equal(a, want) {
			t.Fatalf("in the order of %v: %v; asked for: %v", mixed, a, want)
		}
	}
}

func TestPruneAndOfAreOfWhatWasAdded(t *testing.T) {
	// Pruned now, or when all were added: no difference.
	r := rand.New(rand.NewSource(7))
	for range 300 {
		all := slices.Compact(randomMarks(r))
		epoch, many := r.Intn(5), len(all)/2
		early := Prune(mustAdd(t, nil, all[:many]...), epoch)
		late := Prune(mustAdd(t, nil, all...), epoch)
		if a := Prune(mustAdd(t, early, all[many:]...), epoch); !slices.Equal(a, late) {
			t.Fatalf("of %v, epoch %d: %v; asked for: %v", all, epoch, a, late)
		}
		for kind := range 3 {
			for e := range 4 {
				want := Of(all, e, kind)
				if e < epoch {
					want = nil
				}
				if a := Of(late, e, kind); !slices.Equal(a, want) {
					t.Fatalf("of %v, epoch %d, kind %d: %v; asked for: %v", late, e, kind, a, want)
				}
			}
		}
	}
}

// R3.

func TestWhatIsHandedInIsLeftAsItWas(t *testing.T) {
	for _, was := range [][]api.Mark{
		of(2, 1, 4, 3, 0, 0, 9, 9, 9, 8, 8, 8),
		of(3, 0, 0, 2, 1, 4, 9, 9, 9, 8, 8, 8),
	} {
		whole := slices.Clone(was)
		l := whole[:2]
		Right(l)
		Has(l, l[0])
		for _, m := range append(of(2, 1, 3, 2, 1, 5, 4, 0, 0, -1, 0, 0), l...) {
			Add(l, 9, m)
			Add(l, 2, m)
			Add(l[:0], 9, m)
		}
		for epoch := range 5 {
			Prune(l, epoch)
			Of(l, epoch, 0)
		}
		if !slices.Equal(whole, was) {
			t.Errorf("became %v; was %v", whole, was)
		}
	}
}

// checkNew writes into all of one answer, and tells whether that stands anywhere else.
func checkNew[T comparable](t *testing.T, what string, odd T, ask func() []T) {
	t.Helper()
	got, other := ask(), ask()
	was := slices.Clone(other)
	got = got[:cap(got)]
	for i := range got {
		got[i] = odd
	}
	if !slices.Equal(other, was) || !slices.Equal(ask(), was) {
		t.Errorf("%s: what was written into one answer stands elsewhere, too", what)
	}
}

func TestAnswersAreNewMemory(t *testing.T) {
	was := of(1, 0, 0, 2, 1, 4, 3, 0, 0, 9, 9, 9, 8, 8, 8)
	whole := slices.Clone(was)
	l := whole[:3]
	for _, m := range of(0, 0, 0, 2, 1, 5, 4, 0, 0) {
		checkNew(t, "Add", one(7, 7, 7), func() []api.Mark { a, _ := Add(l, 9, m); return a })
		checkNew(t, "Add to none", one(7, 7, 7), func() []api.Mark { a, _ := Add(l[:0], 9, m); return a })
	}
	for epoch := -1; epoch < 5; epoch++ {
		checkNew(t, "Prune", one(7, 7, 7), func() []api.Mark { return Prune(l, epoch) })
		checkNew(t, "Of", 7, func() []int { return Of(l, epoch, 0) })
	}
	checkNew(t, "Prune of none", one(7, 7, 7), func() []api.Mark { return Prune(l[:0], 0) })
	if !slices.Equal(whole, was) {
		t.Errorf("what was handed in became %v; was %v", whole, was)
	}
}

// R4.

func TestTheSameForTheSame(t *testing.T) {
	l, m := of(2, 1, 4, 3, 0, 0), one(2, 1, 5)
	first, _ := Add(l, 9, m)
	Add(first, 9, one(0, 0, 0))
	Prune(first, 3)
	if again, e := Add(slices.Clone(l), 9, m); e != api.OK || !slices.Equal(again, first) {
		t.Errorf("first %v, then %v, error %d", first, again, e)
	}
	if Has(l, m) || !Has(first, m) {
		t.Error("what was added to one list stands in another one")
	}
}
