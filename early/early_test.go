package early

import (
	"math"
	"math/rand"
	"slices"
	"strconv"
	"testing"

	"mootbell/api"
)

// of is a queue, by At and Seq of each; whose they are, and their bytes, are unlike.
func of(numbers ...int) []api.Wait {
	var q []api.Wait
	for i := 0; i < len(numbers); i += 2 {
		q = append(q, one(numbers[i], numbers[i+1]))
	}
	return q
}

func one(at, seq int) api.Wait {
	return api.Wait{At: at, Seq: seq, Peer: (at ^ seq) & 3, Data: strconv.Itoa(at) + " " + strconv.Itoa(seq)}
}

// odd is one that stands nowhere else.
func odd() api.Wait { return api.Wait{At: 77, Seq: 77, Peer: 77, Data: "odd"} }

// someRight is queues that are right.
func someRight() [][]api.Wait {
	return [][]api.Wait{
		nil,
		{},
		of(0, 0),
		of(5, 1, 5, 3),
		of(5, 1, 5, 2, 5, 3, 6, 0),
		// Ahead by At, though Seq is greater.
		of(0, 9, 1, 0),
		of(0, 4, 3, 0, 3, 9, 8, 2),
		of(0, 0, 0, 1, 1, 0, 1, 1, 2, 0, 2, 1),
		of(0, math.MaxInt, math.MaxInt, 0, math.MaxInt, math.MaxInt),
		// Peers and bytes are what they are.
		{{At: 1, Seq: 1, Peer: -1, Data: "z"}, {At: 1, Seq: 2, Peer: math.MinInt}, {At: 1, Seq: 3, Peer: math.MaxInt, Data: "\x00\xff"}},
		{{At: 1, Seq: 1, Peer: 4, Data: "a"}, {At: 1, Seq: 2, Peer: 4, Data: "a"}, {At: 2, Seq: 1, Peer: 4, Data: "a"}},
	}
}

// someWrong is queues that are not right.
func someWrong() [][]api.Wait {
	return [][]api.Wait{
		of(-1, 0),
		of(0, -1),
		of(math.MinInt, 0),
		of(0, math.MinInt),
		of(-1, 3, 5, 1),
		of(5, -1, 5, 1),
		of(5, 1, 6, -1),
		of(5, 1, 5, 1),
		of(0, 0, 0, 0),
		of(5, 3, 5, 1),
		of(6, 1, 5, 1),
		of(6, 1, 5, 9),
		// Wrong only at the beginning, in the middle, at the end.
		of(5, 0, 1, 0, 2, 0, 3, 0, 4, 0),
		of(1, 0, 2, 0, 2, 0, 3, 0, 4, 0),
		of(1, 0, 3, 0, 2, 0, 4, 0),
		of(1, 0, 2, 0, 3, 0, 4, 0, 4, 0),
		of(1, 0, 2, 0, 3, 0, 4, 0, 3, 9),
		of(1, 0, 2, 0, 3, 0, 4, 0, 5, -1),
		// Two are alike, though not those that stand side by side.
		of(1, 0, 2, 0, 1, 0),
		// One At and Seq is one place, whosever they are.
		{{At: 1, Seq: 1, Peer: 1, Data: "a"}, {At: 1, Seq: 1, Peer: 2, Data: "b"}},
		{{At: 1, Seq: 1, Peer: 1, Data: "a"}, {At: 1, Seq: 1, Peer: 1, Data: "b"}},
		// The difference of these is above the greatest int.
		of(math.MaxInt, 0, math.MinInt, 0),
		of(math.MinInt, 0, math.MaxInt, 0),
		of(0, math.MinInt, 0, math.MaxInt),
	}
}

func someNumbers() []int {
	return []int{math.MinInt, -1, 0, 1, 2, 3, 4, 5, 6, 9, math.MaxInt}
}

// someWaits is such as are put into a queue.
func someWaits() []api.Wait {
	var l []api.Wait
	for _, at := range someNumbers() {
		for _, seq := range someNumbers() {
			l = append(l, one(at, seq))
		}
	}
	return l
}

// What follows tells each call by its promise's words, one by one.

func below0(w api.Wait) bool { return w.At < 0 || w.Seq < 0 }

func isAhead(a, b api.Wait) bool {
	if a.At != b.At {
		return a.At < b.At
	}
	return a.Seq < b.Seq
}

func rightByWords(q []api.Wait) bool {
	for i := range q {
		if below0(q[i]) {
			return false
		}
		for j := i + 1; j < len(q); j++ {
			if !isAhead(q[i], q[j]) {
				return false
			}
		}
	}
	return true
}

func those(q []api.Wait, is func(api.Wait) bool) []api.Wait {
	var l []api.Wait
	for _, w := range q {
		if rightByWords(q) && is(w) {
			l = append(l, w)
		}
	}
	return l
}

func putByWords(q []api.Wait, room int, w api.Wait) ([]api.Wait, api.Errno) {
	if !rightByWords(q) || below0(w) {
		return nil, api.ErrArg
	}
	if len(those(q, func(x api.Wait) bool { return x.At == w.At && x.Seq == w.Seq })) > 0 {
		return nil, api.ErrTwice
	}
	if len(q) >= room {
		return nil, api.ErrFull
	}
	first := those(q, func(x api.Wait) bool { return isAhead(x, w) })
	last := those(q, func(x api.Wait) bool { return isAhead(w, x) })
	return slices.Concat(first, []api.Wait{w}, last), api.OK
}

func nextByWords(q []api.Wait) (int, bool) {
	if len(q) == 0 || !rightByWords(q) {
		return 0, false
	}
	least := math.MaxInt
	for _, w := range q {
		least = min(least, w.At)
	}
	return least, true
}

// checkPut holds Put against the words, at rooms about the queue's length.
func checkPut(t *testing.T, q []api.Wait, w api.Wait) {
	t.Helper()
	for _, room := range []int{math.MinInt, -1, 0, 1, len(q) - 1, len(q), len(q) + 1, math.MaxInt} {
		a, e := Put(q, room, w)
		if want, f := putByWords(q, room, w); !slices.Equal(a, want) || e != f {
			t.Fatalf("Put to %v, room %d, of %v: %v, error %d; asked for: %v, error %d", q, room, w, a, e, want, f)
		}
	}
}

// checkAll holds all that is told of a queue against the words.
func checkAll(t *testing.T, q []api.Wait, tick, peer int) {
	t.Helper()
	if is, want := Right(q), rightByWords(q); is != want {
		t.Fatalf("Right of %v: %t", q, is)
	}
	out, rest := Ripe(q, tick)
	wantOut := those(q, func(w api.Wait) bool { return w.At <= tick })
	wantRest := those(q, func(w api.Wait) bool { return w.At > tick })
	if !slices.Equal(out, wantOut) || !slices.Equal(rest, wantRest) {
		t.Fatalf("Ripe of %v, tick %d: %v and %v; asked for: %v and %v", q, tick, out, rest, wantOut, wantRest)
	}
	a, want := Leave(q, peer), those(q, func(w api.Wait) bool { return w.Peer != peer })
	if !slices.Equal(a, want) {
		t.Fatalf("Leave of %v, peer %d: %v; asked for: %v", q, peer, a, want)
	}
	next, is := Next(q)
	if n, f := nextByWords(q); next != n || is != f {
		t.Fatalf("Next of %v: %d, %t; asked for: %d, %t", q, next, is, n, f)
	}
}

// mustPut puts into a queue, one by one, with room for them.
func mustPut(t *testing.T, q []api.Wait, waits ...api.Wait) []api.Wait {
	t.Helper()
	for _, w := range waits {
		next, e := Put(q, len(q)+1, w)
		if e != api.OK {
			t.Fatalf("Put to %v of %v: error %d", q, w, e)
		}
		q = next
	}
	return q
}

// O1.

func TestRight(t *testing.T) {
	for _, q := range someRight() {
		if !Right(q) {
			t.Errorf("not Right: %v", q)
		}
	}
	for _, q := range someWrong() {
		if Right(q) {
			t.Errorf("Right: %v", q)
		}
	}
}

func TestKnownPuts(t *testing.T) {
	for _, x := range []struct {
		q    []api.Wait
		room int
		w    api.Wait
		want []api.Wait
		e    api.Errno
	}{
		{nil, 1, one(0, 0), of(0, 0), api.OK},
		{nil, math.MaxInt, one(math.MaxInt, math.MaxInt), of(math.MaxInt, math.MaxInt), api.OK},
		{nil, 0, one(0, 0), nil, api.ErrFull},
		{nil, -1, one(0, 0), nil, api.ErrFull},
		{nil, math.MinInt, one(0, 0), nil, api.ErrFull},
		// The chapter's example.
		{of(5, 1, 5, 3), 3, one(5, 2), of(5, 1, 5, 2, 5, 3), api.OK},
		{of(5, 1, 5, 3), 2, one(5, 2), nil, api.ErrFull},
		{of(5, 1, 5, 3), 1, one(5, 2), nil, api.ErrFull},
		{of(5, 1, 5, 3), -1, one(5, 2), nil, api.ErrFull},
		// Ahead of all, and behind all.
		{of(5, 1, 5, 3), 3, one(5, 0), of(5, 0, 5, 1, 5, 3), api.OK},
		{of(5, 1, 5, 3), 3, one(4, 9), of(4, 9, 5, 1, 5, 3), api.OK},
		{of(5, 1, 5, 3), 3, one(0, 0), of(0, 0, 5, 1, 5, 3), api.OK},
		{of(5, 1, 5, 3), 3, one(5, 4), of(5, 1, 5, 3, 5, 4), api.OK},
		{of(5, 1, 5, 3), 3, one(6, 0), of(5, 1, 5, 3, 6, 0), api.OK},
		// It is there, also where there is no room.
		{of(5, 1, 5, 3), 3, one(5, 1), nil, api.ErrTwice},
		{of(5, 1, 5, 3), 2, one(5, 3), nil, api.ErrTwice},
		{of(5, 1, 5, 3), 0, one(5, 3), nil, api.ErrTwice},
		{of(5, 1, 5, 3), -1, one(5, 3), nil, api.ErrTwice},
		// Its place is taken, by whomever, and by whatever bytes.
		{of(5, 1, 5, 3), 9, api.Wait{At: 5, Seq: 1, Peer: 9, Data: "other"}, nil, api.ErrTwice},
		{of(5, 1, 5, 3), 9, api.Wait{At: 5, Seq: 3}, nil, api.ErrTwice},
		// It may not be, also where there is no room.
		{of(5, 1, 5, 3), 3, one(-1, 0), nil, api.ErrArg},
		{of(5, 1, 5, 3), 3, one(5, -1), nil, api.ErrArg},
		{of(5, 1, 5, 3), 2, one(5, -1), nil, api.ErrArg},
		{of(5, 1, 5, 3), -1, one(math.MinInt, 0), nil, api.ErrArg},
		{nil, 0, one(0, math.MinInt), nil, api.ErrArg},
		// The queue is not right, also where the place is taken, or there is no room.
		{of(5, 3, 5, 1), 9, one(5, 2), nil, api.ErrArg},
		{of(5, 3, 5, 1), 9, one(5, 1), nil, api.ErrArg},
		{of(5, 3, 5, 1), 2, one(5, 2), nil, api.ErrArg},
		{of(5, 3, 5, 3), 0, one(5, 3), nil, api.ErrArg},
		{of(-1, 0), 9, one(-1, 0), nil, api.ErrArg},
	} {
		a, e := Put(x.q, x.room, x.w)
		if !slices.Equal(a, x.want) || e != x.e {
			t.Errorf("Put to %v, room %d, of %v: %v, error %d; asked for: %v, error %d", x.q, x.room, x.w, a, e, x.want, x.e)
		}
	}
}

func TestAnyPeerAndAnyBytesMayWait(t *testing.T) {
	for _, w := range []api.Wait{
		{At: 5, Seq: 2},
		{At: 5, Seq: 2, Peer: -1, Data: "\x00"},
		{At: 5, Seq: 2, Peer: math.MinInt, Data: "\xff\xfe"},
		{At: 5, Seq: 2, Peer: math.MaxInt, Data: string(make([]byte, api.MaxBytes+1))},
	} {
		q := of(5, 1, 5, 3)
		if a, e := Put(q, 3, w); !slices.Equal(a, []api.Wait{q[0], w, q[1]}) || e != api.OK {
			t.Errorf("peer %d, %d bytes: %d wait, error %d", w.Peer, len(w.Data), len(a), e)
		}
	}
}

func TestNothingIsPutIntoWhatIsNotRight(t *testing.T) {
	for _, q := range someWrong() {
		for _, w := range append(someWaits(), q...) {
			for _, room := range []int{math.MinInt, 0, len(q), len(q) + 1, math.MaxInt} {
				if a, e := Put(q, room, w); len(a) > 0 || e != api.ErrArg {
					t.Fatalf("Put to %v, room %d, of %v: %v, error %d", q, room, w, a, e)
				}
			}
		}
	}
}

// O1 and O2.

func TestAllByWords(t *testing.T) {
	for _, q := range append(someRight(), someWrong()...) {
		for _, w := range append(someWaits(), q...) {
			checkPut(t, q, w)
			checkAll(t, q, w.At, w.Peer)
			checkAll(t, q, w.Seq, w.Seq)
		}
	}
}

func TestAllShortOnesByWords(t *testing.T) {
	var each []api.Wait
	for _, at := range []int{-1, 0, 1, 2} {
		for _, seq := range []int{-1, 0, 1, 2} {
			each = append(each, one(at, seq))
		}
	}
	for _, a := range each {
		for _, w := range each {
			checkPut(t, []api.Wait{a}, w)
			checkAll(t, []api.Wait{a}, w.At, w.Seq)
		}
		for _, b := range each {
			for _, w := range each {
				checkPut(t, []api.Wait{a, b}, w)
				checkAll(t, []api.Wait{a, b}, w.At, w.Seq)
			}
		}
	}
}

// randomQueue is some in order, of small numbers; now and then two are of one place.
func randomQueue(r *rand.Rand) []api.Wait {
	q := make([]api.Wait, r.Intn(30))
	for i := range q {
		q[i] = api.Wait{At: r.Intn(6), Seq: r.Intn(20), Peer: r.Intn(4), Data: strconv.Itoa(i)}
	}
	slices.SortFunc(q, func(a, b api.Wait) int {
		if isAhead(a, b) {
			return -1
		}
		if isAhead(b, a) {
			return 1
		}
		return 0
	})
	if r.Intn(5) > 0 {
		q = onePerPlace(q)
	}
	return q
}

func onePerPlace(q []api.Wait) []api.Wait {
	return slices.CompactFunc(q, func(a, b api.Wait) bool { return a.At == b.At && a.Seq == b.Seq })
}

func TestManyByWords(t *testing.T) {
	r := rand.New(rand.NewSource(14))
	for range 5000 {
		q := randomQueue(r)
		checkPut(t, q, one(r.Intn(8)-1, r.Intn(22)-1))
		checkAll(t, q, r.Intn(8)-1, r.Intn(6)-1)
		if len(q) > 0 {
			checkPut(t, q, q[r.Intn(len(q))])
		}
		// Two that change places, which may be one.
		if len(q) > 1 {
			i, j := r.Intn(len(q)), r.Intn(len(q))
			q[i], q[j] = q[j], q[i]
			checkPut(t, q, one(r.Intn(8)-1, r.Intn(22)-1))
			checkAll(t, q, r.Intn(8)-1, r.Intn(6)-1)
		}
	}
}

// O2.

func TestKnownRipes(t *testing.T) {
	q := of(0, 4, 3, 0, 3, 9, 8, 2)
	for _, x := range []struct{ tick, many int }{
		{math.MinInt, 0}, {-1, 0}, {0, 1}, {1, 1}, {2, 1}, {3, 3}, {4, 3}, {7, 3}, {8, 4}, {9, 4}, {math.MaxInt, 4},
	} {
		out, rest := Ripe(q, x.tick)
		if !slices.Equal(out, q[:x.many]) || !slices.Equal(rest, q[x.many:]) {
			t.Errorf("Ripe of %v, tick %d: %v and %v", q, x.tick, out, rest)
		}
	}
	// The chapter's example.
	out, rest := Ripe(of(5, 1, 5, 2, 5, 3, 6, 0), 5)
	if !slices.Equal(out, of(5, 1, 5, 2, 5, 3)) || !slices.Equal(rest, of(6, 0)) {
		t.Errorf("of three and one: %v and %v", out, rest)
	}
	last := of(0, 0, math.MaxInt, 0)
	out, rest = Ripe(last, math.MaxInt-1)
	if !slices.Equal(out, last[:1]) || !slices.Equal(rest, last[1:]) {
		t.Errorf("ahead of the greatest tick: %v and %v", out, rest)
	}
	for _, q := range append(someWrong(), nil, []api.Wait{}) {
		for _, tick := range someNumbers() {
			if out, rest := Ripe(q, tick); len(out) > 0 || len(rest) > 0 {
				t.Errorf("Ripe of %v, tick %d: %v and %v", q, tick, out, rest)
			}
		}
	}
}

func TestKnownLeaves(t *testing.T) {
	q := []api.Wait{{At: 0, Seq: 4, Peer: 1, Data: "a"}, {At: 3, Seq: 0, Peer: 2}, {At: 3, Seq: 9, Peer: 1}, {At: 8, Seq: 2, Peer: 3, Data: "b"}}
	for _, x := range []struct {
		peer int
		want []api.Wait
	}{
		{1, []api.Wait{q[1], q[3]}}, {2, []api.Wait{q[0], q[2], q[3]}}, {3, q[:3]}, {0, q}, {4, q}, {-1, q}, {math.MinInt, q}, {math.MaxInt, q},
	} {
		if a := Leave(q, x.peer); !slices.Equal(a, x.want) {
			t.Errorf("Leave of %v, peer %d: %v; asked for: %v", q, x.peer, a, x.want)
		}
	}
	all := []api.Wait{{At: 1, Peer: -1}, {At: 2, Peer: -1}, {At: 3, Peer: -1}}
	if a := Leave(all, -1); len(a) > 0 {
		t.Errorf("when the only peer leaves: %v", a)
	}
	for _, q := range append(someWrong(), nil, []api.Wait{}) {
		for _, peer := range someNumbers() {
			if a := Leave(q, peer); len(a) > 0 {
				t.Errorf("Leave of %v, peer %d: %v", q, peer, a)
			}
		}
	}
}

func TestKnownNexts(t *testing.T) {
	for _, x := range []struct {
		q    []api.Wait
		at   int
		want bool
	}{
		{nil, 0, false},
		{[]api.Wait{}, 0, false},
		{of(0, 0), 0, true},
		{of(0, 9, 1, 0), 0, true},
		{of(5, 1, 5, 3), 5, true},
		{of(5, 7, 6, 1), 5, true},
		{of(math.MaxInt, 0), math.MaxInt, true},
	} {
		if at, is := Next(x.q); at != x.at || is != x.want {
			t.Errorf("Next of %v: %d, %t", x.q, at, is)
		}
	}
	for _, q := range someWrong() {
		if at, is := Next(q); at != 0 || is {
			t.Errorf("Next of %v: %d, %t", q, at, is)
		}
	}
}

// O3.

func TestQueueDoesNotHangOnTheOrder(t *testing.T) {
	r := rand.New(rand.NewSource(41))
	for range 300 {
		all := onePerPlace(randomQueue(r))
		want := mustPut(t, nil, all...)
		if !slices.Equal(want, all) || !Right(want) {
			t.Fatalf("in order: %v; asked for: %v", want, all)
		}
		mixed := slices.Clone(all)
		r.Shuffle(len(mixed), func(i, j int) { mixed[i], mixed[j] = mixed[j], mixed[i] })
		if a := mustPut(t, nil, mixed...); !slices.Equal(a, want) {
			t.Fatalf("in the order of %v: %v; asked for: %v", mixed, a, want)
		}
	}
}

func TestEachComesOutOnceWhenItsTimeHasCome(t *testing.T) {
	r := rand.New(rand.NewSource(42))
	for range 300 {
		all := onePerPlace(randomQueue(r))
		q := mustPut(t, nil, all...)
		var came []api.Wait
		last := math.MinInt
		for tick := -1; tick < 8; tick += 1 + r.Intn(3) {
			if next, is := Next(q); is && next <= last {
				t.Fatalf("tick %d is over: one of %d still waits", last, next)
			}
			last = tick
			out, rest := Ripe(q, tick)
			for _, w := range out {
				if w.At > tick {
					t.Fatalf("tick %d: %v came out", tick, w)
				}
			}
			if again, same := Ripe(rest, tick); len(again) > 0 || !slices.Equal(same, rest) {
				t.Fatalf("tick %d once more: %v and %v", tick, again, same)
			}
			came, q = append(came, out...), rest
		}
		if out, rest := Ripe(q, math.MaxInt); len(rest) > 0 || !slices.Equal(append(came, out...), all) {
			t.Fatalf("came out: %v; asked for: %v", came, all)
		}
	}
}

func TestRipeAtNextIsSome(t *testing.T) {
	for _, q := range someRight() {
		next, is := Next(q)
		if !is {
			continue
		}
		if out, _ := Ripe(q, next-1); len(out) > 0 {
			t.Errorf("%v: %v came out ahead of %d", q, out, next)
		}
		if out, _ := Ripe(q, next); len(out) == 0 || out[0] != q[0] {
			t.Errorf("%v: at %d came out: %v", q, next, out)
		}
	}
}

func TestWhoLeavesLeavesRightQueues(t *testing.T) {
	r := rand.New(rand.NewSource(43))
	for range 300 {
		q := onePerPlace(randomQueue(r))
		tick, peer := r.Intn(7), r.Intn(4)
		out, rest := Ripe(q, tick)
		leftOut, leftRest := Ripe(Leave(q, peer), tick)
		// Whether a peer leaves first, or time goes on: no difference.
		if !slices.Equal(Leave(out, peer), leftOut) || !slices.Equal(Leave(rest, peer), leftRest) {
			t.Fatalf("%v, tick %d, peer %d: %v and %v", q, tick, peer, leftOut, leftRest)
		}
		for _, l := range [][]api.Wait{out, rest, leftOut, leftRest} {
			if !Right(l) {
				t.Fatalf("%v, tick %d, peer %d: %v is not right", q, tick, peer, l)
			}
		}
	}
}

// R3.

func TestWhatIsHandedInIsLeftAsItWas(t *testing.T) {
	for _, was := range [][]api.Wait{
		of(5, 1, 5, 3, 9, 9, 8, 8),
		of(5, 3, 5, 1, 9, 9, 8, 8),
	} {
		whole := slices.Clone(was)
		q := whole[:2]
		Right(q)
		Next(q)
		for _, w := range append(of(5, 0, 5, 2, 6, 0, -1, 0), q...) {
			Put(q, 9, w)
			Put(q, 2, w)
			Put(q[:0], 9, w)
		}
		for n := -1; n < 7; n++ {
			Ripe(q, n)
			Leave(q, n)
		}
		if !slices.Equal(whole, was) {
			t.Errorf("became %v; was %v", whole, was)
		}
	}
}

// checkNew writes into all of one answer, and tells whether that stands anywhere else.
func checkNew(t *testing.T, what string, ask func() []api.Wait) {
	t.Helper()
	got, other := ask(), ask()
	was := slices.Clone(other)
	got = got[:cap(got)]
	for i := range got {
		got[i] = odd()
	}
	if !slices.Equal(other, was) || !slices.Equal(ask(), was) {
		t.Errorf("%s: what was written into one answer stands elsewhere, too", what)
	}
}

func TestAnswersAreNewMemory(t *testing.T) {
	was := of(1, 0, 2, 1, 3, 4, 9, 9, 8, 8)
	whole := slices.Clone(was)
	q := whole[:3]
	for _, w := range of(0, 0, 2, 0, 2, 2, 4, 0) {
		checkNew(t, "Put", func() []api.Wait { a, _ := Put(q, 9, w); return a })
		checkNew(t, "Put to none", func() []api.Wait { a, _ := Put(q[:0], 9, w); return a })
	}
	for n := -1; n < 6; n++ {
		checkNew(t, "what is ripe", func() []api.Wait { a, _ := Ripe(q, n); return a })
		checkNew(t, "what is not ripe", func() []api.Wait { _, a := Ripe(q, n); return a })
		checkNew(t, "Leave", func() []api.Wait { return Leave(q, n) })
	}
	checkNew(t, "Leave of none", func() []api.Wait { return Leave(q[:0], 0) })
	if !slices.Equal(whole, was) {
		t.Errorf("what was handed in became %v; was %v", whole, was)
	}
}

func TestWhatIsRipeAndWhatIsNotShareNothing(t *testing.T) {
	q := of(1, 0, 2, 1, 3, 4)
	for tick := range 5 {
		out, rest := Ripe(q, tick)
		was := slices.Clone(rest)
		out = out[:cap(out)]
		for i := range out {
			out[i] = odd()
		}
		if _ = append(out, odd()); !slices.Equal(rest, was) {
			t.Errorf("tick %d: what was written into the first ones stands in the others: %v", tick, rest)
		}
		out, rest = Ripe(q, tick)
		was = slices.Clone(out)
		rest = rest[:cap(rest)]
		for i := range rest {
			rest[i] = odd()
		}
		if !slices.Equal(out, was) {
			t.Errorf("tick %d: what was written into the others stands in the first ones: %v", tick, out)
		}
	}
}

// R4.

func TestTheSameForTheSame(t *testing.T) {
	q, w := of(5, 1, 5, 3), one(5, 2)
	first, _ := Put(q, 9, w)
	Put(first, 9, one(0, 0))
	Ripe(first, 5)
	Leave(first, w.Peer)
	if again, e := Put(slices.Clone(q), 9, w); e != api.OK || !slices.Equal(again, first) {
		t.Errorf("first %v, then %v, error %d", first, again, e)
	}
	if next, is := Next(first); next != 5 || !is {
		t.Errorf("Next: %d, %t", next, is)
	}
}
