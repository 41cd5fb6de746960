package ring_test

import (
	"math"
	"slices"
	"strconv"
	"testing"

	"futtock/ring"
)

// threads are such as there are, the first one and the last one among them.
var threads = []int{0, 1, 2, 7, 255, 256, 32767, 32768, 65533, 65534}

// noThreads are none, though some have the lowest bits of one.
var noThreads = []int{-1, -2, -65534, -65535, -65536, 65535, 65536, 65537, 131072, 1 << 31, 1 << 32, 1<<32 + 1, -1 << 32, math.MaxInt, math.MaxInt - 1, math.MinInt, math.MinInt + 1}

// counts are such as there are, the least one and the greatest one among them.
var counts = []int{1, 2, 60, 61, 255, 256, 32768, 65534, 65535}

// noCounts are none.
var noCounts = []int{0, -1, -2, -60, -65535, -65536, 65536, 65537, 131072, 1<<16 + 5, 1 << 31, 1 << 32, 1<<32 + 1, -1 << 32, math.MaxInt, math.MaxInt - 1, math.MinInt, math.MinInt + 1}

// of is a waiter.
func of(thread, count int) ring.Waiter {
	return ring.Waiter{Thread: thread, Count: count}
}

// ofAll are waiters of those threads, each of another count than the others'.
func ofAll(those ...int) []ring.Waiter {
	var l []ring.Waiter
	for i, thread := range those {
		l = append(l, of(thread, i*7%65535+1))
	}
	return l
}

// without is a list without the one at a place.
func without(those []ring.Waiter, at int) []ring.Waiter {
	return slices.Concat(those[:at], those[at+1:])
}

// turned is a list whose first one is its last one.
func turned(those []ring.Waiter) []ring.Waiter {
	if len(those) == 0 {
		return nil
	}
	return slices.Concat(those[1:], those[:1])
}

// with is a list with one more at its end.
func with(those []ring.Waiter, w ring.Waiter) []ring.Waiter {
	return append(slices.Clone(those), w)
}

// shows tells of what a ring of those waiters, in that order, should show and
// doesn't, twice.
func shows(t *testing.T, r ring.Ring, those ...ring.Waiter) {
	t.Helper()
	for range 2 {
		if l := r.All(); !slices.Equal(l, those) {
			t.Fatalf("All is %v, not %v", l, those)
		}
		if n := r.Len(); n != len(those) {
			t.Fatalf("Len of %v is %d", those, n)
		}
		want := ring.Waiter{}
		if len(those) > 0 {
			want = those[0]
		}
		if w, ok := r.First(); w != want || ok != (len(those) > 0) {
			t.Fatalf("First of %v is %v, %v", those, w, ok)
		}
	}
}

// added does an Add that may be.
func added(t *testing.T, r ring.Ring, w ring.Waiter) ring.Ring {
	t.Helper()
	next, ok := r.Add(w)
	if !ok {
		t.Fatalf("Add(%v) to %v is false", w, r.All())
	}
	return next
}

// notAdded does an Add that may not be: the ring that it answers is the one that
// was, which is of those waiters.
func notAdded(t *testing.T, r ring.Ring, w ring.Waiter, those ...ring.Waiter) {
	t.Helper()
	same, ok := r.Add(w)
	if ok {
		t.Fatalf("Add(%v) to %v is true", w, those)
	}
	shows(t, same, those...)
	shows(t, r, those...)
}

// removed does a Remove of that waiter, which is there.
func removed(t *testing.T, r ring.Ring, want ring.Waiter) ring.Ring {
	t.Helper()
	w, next, ok := r.Remove(want.Thread)
	if w != want || !ok {
		t.Fatalf("Remove(%d) of %v is %v, %v, not %v", want.Thread, r.All(), w, ok, want)
	}
	return next
}

// notRemoved does a Remove of a thread that is not there: the ring that it
// answers is the one that was, which is of those waiters.
func notRemoved(t *testing.T, r ring.Ring, thread int, those ...ring.Waiter) {
	t.Helper()
	w, same, ok := r.Remove(thread)
	if w != (ring.Waiter{}) || ok {
		t.Fatalf("Remove(%d) of %v is %v, %v", thread, those, w, ok)
	}
	shows(t, same, those...)
	shows(t, r, those...)
}

// made is a ring of those waiters, each added.
func made(t *testing.T, those ...ring.Waiter) ring.Ring {
	t.Helper()
	r := ring.Ring{}
	for _, w := range those {
		r = added(t, r, w)
	}
	return r
}

// wound are rings of those waiters, in that order, that came there by Turns: for
// each of them the ones that were last were added first.
func wound(t *testing.T, those ...ring.Waiter) []ring.Ring {
	t.Helper()
	l := []ring.Ring{made(t, those...)}
	for at := 1; at < len(those); at++ {
		r := made(t, slices.Concat(those[at:], those[:at])...)
		for range len(those) - at {
			r = r.Turn()
		}
		l = append(l, r)
	}
	return l
}

// numbers are of no pattern, and the same ones each time.
type numbers uint64

func (n *numbers) below(end int) int {
	*n = *n*6364136223846793005 + 1442695040888963407
	return int(uint64(*n) >> 33 % uint64(end))
}

// mixed are numbers from 0 on, so many, in no order.
func (n *numbers) mixed(many int) []int {
	l := make([]int, many)
	for i := range l {
		j := n.below(i + 1)
		l[i], l[j] = l[j], i
	}
	return l
}

// stay is when a waiter came, and how often it owned what it waits at.
type stay struct {
	came, count int
}

// slow is what a ring should be: of each thread that waits there its stay. It is
// never turned, either: each call answers a new one.
type slow map[int]stay

// with is it with a waiter that came later than all the others.
func (s slow) with(w ring.Waiter) slow {
	last := 0
	u := slow{}
	for thread, at := range s {
		if thread != w.Thread {
			u[thread] = at
		}
		last = max(last, at.came)
	}
	u[w.Thread] = stay{last + 1, w.Count}
	return u
}

// all are the waiters by when they came.
func (s slow) all() []ring.Waiter {
	var l []ring.Waiter
	for thread, at := range s {
		l = append(l, of(thread, at.count))
	}
	slices.SortFunc(l, func(a, b ring.Waiter) int { return s[a.Thread].came - s[b.Thread].came })
	return l
}

func (s slow) add(w ring.Waiter) (slow, bool) {
	_, there := s[w.Thread]
	if there || w.Thread < 0 || w.Thread > 65534 || w.Count < 1 || w.Count > 65535 {
		return s, false
	}
	return s.with(w), true
}

func (s slow) remove(thread int) (ring.Waiter, slow, bool) {
	at, there := s[thread]
	if !there {
		return ring.Waiter{}, s, false
	}
	u := slow{}
	for other, o := range s {
		if other != thread {
			u[other] = o
		}
	}
	return of(thread, at.count), u, true
}

func (s slow) turn() slow {
	if len(s) == 0 {
		return s
	}
	return s.with(s.all()[0])
}

// slowOf is what a ring of those waiters should be.
func slowOf(those []ring.Waiter) slow {
	s := slow{}
	for _, w := range those {
		s = s.with(w)
	}
	return s
}

// call is one of the calls that answer a ring.
type call struct {
	what byte // 'a', 'r' or 't'
	ring.Waiter
}

func (c call) String() string {
	return string(rune(c.what)) + " " + strconv.Itoa(c.Thread) + " " + strconv.Itoa(c.Count)
}

// did does a call of a ring and of what it should be, and tells what came of
// both.
func did(t *testing.T, r ring.Ring, s slow, c call) (ring.Ring, slow) {
	t.Helper()
	was := r.All()
	var got, want [2]any
	var next ring.Ring
	var then slow
	switch c.what {
	case 'a':
		next, got[0] = second(r.Add(c.Waiter))
		then, want[0] = second(s.add(c.Waiter))
	case 'r':
		got[0], next, got[1] = outer(r.Remove(c.Thread))
		want[0], then, want[1] = outer(s.remove(c.Thread))
	case 't':
		next, then = r.Turn(), s.turn()
	}
	if got != want {
		t.Fatalf("%v: of %v is %v, not %v", c, was, got, want)
	}
	shows(t, next, then.all()...)
	shows(t, r, was...)
	return next, then
}

// second lets an answer's second part be of any type.
func second[R, A any](r R, a A) (R, any) { return r, a }

// outer lets an answer's first part and its third one be of any type.
func outer[A, R, B any](a A, r R, b B) (any, R, any) { return a, r, b }

// some does a call of no pattern, of those threads.
func (n *numbers) some(those []int) call {
	c := call{what: "aaarrtt"[n.below(7)]}
	if c.what != 't' {
		c.Thread = those[n.below(len(those))]
	}
	if c.what == 'a' {
		c.Count = counts[n.below(len(counts))]
		if n.below(20) == 0 {
			c.Count = noCounts[n.below(len(noCounts))]
		}
	}
	return c
}

// P13.1: the zero ring is empty, in every call.
func TestZero(t *testing.T) {
	var r ring.Ring
	shows(t, r)
	shows(t, ring.Ring{})
	shows(t, r.Turn())
	shows(t, r.Turn().Turn())
	for _, thread := range slices.Concat(threads, noThreads) {
		notRemoved(t, r, thread)
		notRemoved(t, r.Turn(), thread)
	}
	notAdded(t, r, ring.Waiter{})
	for _, thread := range threads {
		for _, count := range counts {
			shows(t, added(t, r, of(thread, count)), of(thread, count))
			shows(t, added(t, r.Turn(), of(thread, count)), of(thread, count))
		}
	}
	shows(t, r)
	shows(t, ring.Ring{})
}

// P13.1: whoever is added is last, and who came first is told, with the count
// that it came with.
func TestAdd(t *testing.T) {
	for _, those := range [][]ring.Waiter{
		{of(0, 1)}, {of(0, 65535)}, {of(65534, 1)}, {of(65534, 65535)},
		{of(0, 65535), of(65534, 1)}, {of(65534, 65535), of(0, 1)},
		{of(1, 1), of(2, 1), of(3, 1)}, {of(3, 3), of(2, 2), of(1, 1)}, {of(2, 9), of(3, 8), of(1, 9)},
		ofAll(threads...), ofAll(9, 8, 7, 6, 5, 4, 3, 2, 1, 0),
	} {
		r := ring.Ring{}
		for i, w := range those {
			r = added(t, r, w)
			shows(t, r, those[:i+1]...)
		}
		for i, w := range those {
			first, ok := r.First()
			if first != w || !ok {
				t.Fatalf("First of %v is %v, %v", those[i:], first, ok)
			}
			r = removed(t, r, w)
			shows(t, r, those[i+1:]...)
		}
	}
}

// P13.1: a thread that is there is not added, wherever it stands and however
// often it owned: the count that it came with stays.
func TestAddOfWhatIsThere(t *testing.T) {
	for _, those := range [][]ring.Waiter{
		{of(0, 1)}, {of(65534, 65535)}, {of(0, 3), of(65534, 3)}, ofAll(4, 2, 9), ofAll(65534, 3, 0, 1, 2),
	} {
		for _, r := range wound(t, those...) {
			for _, w := range those {
				notAdded(t, r, w, those...)
				for _, count := range slices.Concat(counts, noCounts) {
					notAdded(t, r, of(w.Thread, count), those...)
				}
			}
			more := with(those, those[0])
			more[len(those)].Thread = 77
			r = added(t, r, more[len(those)])
			shows(t, r, more...)
			notAdded(t, r, of(77, 1), more...)
		}
	}
}

// P13.1: a thread that was removed is added anew, and is last then, with the
// count that it comes with now.
func TestAddOfWhatWasRemoved(t *testing.T) {
	for _, those := range [][]ring.Waiter{
		{of(0, 1)}, {of(65534, 65535)}, {of(0, 3), of(65534, 3)}, ofAll(4, 2, 9), ofAll(65534, 3, 0, 1, 2),
	} {
		for _, r := range wound(t, those...) {
			for at, w := range those {
				others := without(those, at)
				for _, count := range []int{w.Count, 1, 65535} {
					anew := of(w.Thread, count)
					less := removed(t, r, w)
					more := added(t, less, anew)
					shows(t, more, with(others, anew)...)
					notAdded(t, more, w, with(others, anew)...)
					notAdded(t, less, of(w.Thread, 0), others...)
					shows(t, removed(t, more, anew), others...)
					shows(t, less, others...)
				}
			}
			shows(t, r, those...)
		}
	}
}

// P13.1: a Remove of any thread, first, in the middle, last or the only one,
// tells its waiter and leaves the others in their order.
func TestRemove(t *testing.T) {
	for _, x := range []struct {
		those []ring.Waiter
		w     ring.Waiter
		then  []ring.Waiter
	}{
		{[]ring.Waiter{of(0, 1)}, of(0, 1), nil},
		{[]ring.Waiter{of(65534, 65535)}, of(65534, 65535), nil},
		{[]ring.Waiter{of(0, 2), of(65534, 3)}, of(0, 2), []ring.Waiter{of(65534, 3)}},
		{[]ring.Waiter{of(0, 2), of(65534, 3)}, of(65534, 3), []ring.Waiter{of(0, 2)}},
		{[]ring.Waiter{of(1, 4), of(2, 5), of(3, 6)}, of(1, 4), []ring.Waiter{of(2, 5), of(3, 6)}},
		{[]ring.Waiter{of(1, 4), of(2, 5), of(3, 6)}, of(2, 5), []ring.Waiter{of(1, 4), of(3, 6)}},
		{[]ring.Waiter{of(1, 4), of(2, 5), of(3, 6)}, of(3, 6), []ring.Waiter{of(1, 4), of(2, 5)}},
		{[]ring.Waiter{of(9, 1), of(4, 1), of(65534, 1), of(0, 1)}, of(9, 1), []ring.Waiter{of(4, 1), of(65534, 1), of(0, 1)}},
		{[]ring.Waiter{of(9, 1), of(4, 1), of(65534, 1), of(0, 1)}, of(4, 1), []ring.Waiter{of(9, 1), of(65534, 1), of(0, 1)}},
		{[]ring.Waiter{of(9, 1), of(4, 1), of(65534, 1), of(0, 1)}, of(65534, 1), []ring.Waiter{of(9, 1), of(4, 1), of(0, 1)}},
		{[]ring.Waiter{of(9, 1), of(4, 1), of(65534, 1), of(0, 1)}, of(0, 1), []ring.Waiter{of(9, 1), of(4, 1), of(65534, 1)}},
	} {
		for _, r := range wound(t, x.those...) {
			less := removed(t, r, x.w)
			shows(t, less, x.then...)
			notRemoved(t, less, x.w.Thread, x.then...)
			shows(t, less.Turn(), turned(x.then)...)
			shows(t, r, x.those...)
		}
	}
}

// P13.1: a Remove of a thread that is not there is false, and turns nothing.
func TestRemoveOfWhatIsNotThere(t *testing.T) {
	for _, those := range [][]int{nil, {3}, {32766, 32769}, {65532, 9, 5}, {3, 4, 5, 6, 8}} {
		for _, r := range wound(t, ofAll(those...)...) {
			for _, thread := range slices.Concat(threads, noThreads) {
				notRemoved(t, r, thread, ofAll(those...)...)
			}
		}
	}
}

// P13.1: as a ring is turned its first one is its last one, and the others stay
// in their order.
func TestTurn(t *testing.T) {
	shows(t, ring.Ring{}.Turn())
	shows(t, removed(t, made(t, of(5, 5)), of(5, 5)).Turn())
	shows(t, made(t, of(0, 1)).Turn(), of(0, 1))
	shows(t, made(t, of(65534, 65535)).Turn(), of(65534, 65535))
	shows(t, made(t, of(0, 1), of(65534, 2)).Turn(), of(65534, 2), of(0, 1))
	shows(t, made(t, of(1, 9), of(2, 8), of(3, 7)).Turn(), of(2, 8), of(3, 7), of(1, 9))
	r := made(t, of(4, 1), of(2, 2), of(9, 3), of(0, 4))
	shows(t, r.Turn(), of(2, 2), of(9, 3), of(0, 4), of(4, 1))
	shows(t, r.Turn().Turn(), of(9, 3), of(0, 4), of(4, 1), of(2, 2))
	shows(t, r.Turn().Turn().Turn(), of(0, 4), of(4, 1), of(2, 2), of(9, 3))
	shows(t, r.Turn().Turn().Turn().Turn(), of(4, 1), of(2, 2), of(9, 3), of(0, 4))
	shows(t, r, of(4, 1), of(2, 2), of(9, 3), of(0, 4))
}

// P13.1: a ring that was turned takes waiters at its end, and lets any go, as one
// that was not.
func TestTurnedAsAny(t *testing.T) {
	for many := range 7 {
		those := ofAll([]int{6, 0, 65534, 3, 2, 9}[:many]...)
		r := made(t, those...)
		for range 2*many + 2 {
			shows(t, r, those...)
			shows(t, added(t, r, of(8, 80)), with(those, of(8, 80))...)
			shows(t, added(t, r, of(8, 80)).Turn(), turned(with(those, of(8, 80)))...)
			notAdded(t, r, of(-1, 1), those...)
			notRemoved(t, r, 8, those...)
			for at, w := range those {
				notAdded(t, r, w, those...)
				less := removed(t, r, w)
				shows(t, less, without(those, at)...)
				shows(t, less.Turn(), turned(without(those, at))...)
				shows(t, added(t, less.Turn(), w), with(turned(without(those, at)), w)...)
			}
			r, those = r.Turn(), turned(those)
		}
	}
}

// P13.4: turned as often as it has waiters a ring is as it was, and no less
// often; turned once more it is as turned once.
func TestTurnedAllTheWay(t *testing.T) {
	for many := range 40 {
		n := numbers(many)
		those := ofAll(n.mixed(many)...)
		for _, r := range wound(t, those...) {
			next := r
			for i := range many {
				if w, ok := next.First(); !ok || w != those[i] {
					t.Fatalf("First of %v, turned %d times, is %v", those, i, w)
				}
				if i > 0 && slices.Equal(next.All(), those) {
					t.Fatalf("%v, turned %d times, is as it was", those, i)
				}
				next = next.Turn()
			}
			shows(t, next, those...)
			shows(t, next.Turn(), turned(those)...)
			shows(t, next.Turn(), r.Turn().All()...)
			shows(t, r, those...)
		}
	}
}

// P13.4: it is so behind all that was done of a ring.
func TestTurnedAllTheWayBehindCalls(t *testing.T) {
	n := numbers(17)
	r, s := ring.Ring{}, slow{}
	for range 3000 {
		r, s = did(t, r, s, n.some([]int{0, 1, 2, 3, 4, 65534}))
		next := r
		for range r.Len() {
			next = next.Turn()
		}
		shows(t, next, s.all()...)
		shows(t, next.Turn(), turned(s.all())...)
	}
}

// P13.1: what is no thread, or no count, is refused by every call, by rings of
// none, of one and of several, and nothing is turned.
func TestWrong(t *testing.T) {
	for _, those := range [][]int{nil, {0}, {65534}, {0, 65534}, {1, 65533, 0, 65534}} {
		all := ofAll(those...)
		for _, r := range wound(t, all...) {
			for _, thread := range noThreads {
				notRemoved(t, r, thread, all...)
				for _, count := range slices.Concat(counts, noCounts) {
					notAdded(t, r, of(thread, count), all...)
				}
			}
			for _, thread := range slices.Concat(threads, []int{42}) {
				for _, count := range noCounts {
					notAdded(t, r, of(thread, count), all...)
				}
			}
			shows(t, r, all...)
		}
	}
}

// P13.1: every thread may be there, and every count.
func TestEveryWaiter(t *testing.T) {
	for n := range 65535 {
		for _, w := range []ring.Waiter{of(n, 1), of(n, 65535), of(0, n+1), of(65534, n+1), of(n, n+1)} {
			r, ok := ring.Ring{}.Add(w)
			if first, there := r.First(); !ok || !there || first != w || r.Len() != 1 {
				t.Fatalf("Add(%v) is %v, %v", w, r.All(), ok)
			}
		}
	}
}

// P13.1, P13.4: a ring may have many waiters, who turn all the way.
func TestMany(t *testing.T) {
	n := numbers(7)
	those := ofAll(n.mixed(65535)[:8000]...)
	full := made(t, those...)
	shows(t, full, those...)
	r := full
	for _, w := range those {
		if first, ok := r.First(); first != w || !ok {
			t.Fatalf("First is %v, %v, not %v", first, ok, w)
		}
		notAddedOf(t, r, w)
		r = r.Turn()
	}
	shows(t, r, those...)
	shows(t, full, those...)
	for at := 0; at < len(those); at += 400 {
		shows(t, removed(t, full, those[at]), without(those, at)...)
		r = removed(t, r, those[at]).Turn()
	}
	if r.Len() != 7980 {
		t.Errorf("%d are left", r.Len())
	}
	shows(t, full, those...)
}

// notAddedOf does an Add that may not be, and does not look at all of the ring.
func notAddedOf(t *testing.T, r ring.Ring, w ring.Waiter) {
	t.Helper()
	if _, ok := r.Add(w); ok {
		t.Fatalf("Add(%v) is true", w)
	}
}

// begun are rings that came of different calls.
func begun(t *testing.T) map[string]ring.Ring {
	t.Helper()
	those := ofAll(1, 2, 3, 4, 5)
	five := made(t, those...)
	return map[string]ring.Ring{
		"zero":           {},
		"zero, turned":   ring.Ring{}.Turn(),
		"one":            made(t, those[:1]...),
		"one, turned":    made(t, those[:1]...).Turn(),
		"two":            made(t, those[:2]...),
		"two, turned":    made(t, those[:2]...).Turn(),
		"three":          made(t, those[:3]...),
		"five":           five,
		"nine":           made(t, ofAll(1, 2, 3, 4, 5, 6, 7, 8, 9)...),
		"empty again":    removed(t, made(t, those[0]), those[0]),
		"first removed":  removed(t, five, those[0]),
		"middle removed": removed(t, five, those[2]),
		"last removed":   removed(t, five, those[4]),
		"first three":    removed(t, removed(t, five, those[4]), those[3]),
		"turned":         five.Turn(),
		"turned twice":   five.Turn().Turn(),
		"turned about":   five.Turn().Turn().Turn().Turn().Turn(),
		"turned, less":   removed(t, five.Turn().Turn(), those[4]),
		"turned, more":   added(t, five.Turn().Turn(), of(6, 60)),
		"less, turned":   removed(t, five, those[1]).Turn(),
		"more, turned":   added(t, five, of(6, 60)).Turn().Turn().Turn(),
		"removed, added": added(t, removed(t, five, those[4]), of(5, 50)),
	}
}

// calls are of all kinds, of threads that begun ones have and have not.
var calls = []call{
	{what: 't'},
	{'a', of(1, 1)}, {'a', of(1, 11)}, {'a', of(10, 1)}, {'a', of(10, 2)}, {'a', of(11, 65535)}, {'a', of(0, 1)}, {'a', of(65534, 3)},
	{'a', of(-1, 1)}, {'a', of(65535, 1)}, {'a', of(12, 0)}, {'a', of(12, 65536)}, {'a', of(-1, 0)},
	{'r', of(1, 0)}, {'r', of(2, 0)}, {'r', of(3, 0)}, {'r', of(4, 0)}, {'r', of(5, 0)}, {'r', of(6, 0)}, {'r', of(0, 0)}, {'r', of(-1, 0)}, {'r', of(65535, 0)},
}

// P13.5: two rings that were made out of one by different calls are each as if
// the other were not, and the one is as it was.
func TestTwoOutOfOne(t *testing.T) {
	for name, r := range begun(t) {
		was := r.All()
		s := slowOf(was)
		for _, a := range calls {
			for _, b := range calls {
				t.Run(name+": "+a.String()+", "+b.String(), func(t *testing.T) {
					x, u := did(t, r, s, a)
					y, v := did(t, r, s, b)
					shows(t, x, u.all()...)
					did(t, x, u, b)
					did(t, y, v, a)
					shows(t, x, u.all()...)
					shows(t, y, v.all()...)
					shows(t, r, was...)
				})
			}
		}
	}
}

// kept is a ring, and what it should be.
type kept struct {
	r ring.Ring
	s slow
}

// grows does all calls of few threads of a ring, and all of what comes of them,
// so deep, and looks at each ring again behind all that came of it and of those
// beside it.
func grows(t *testing.T, k kept, deep int) int {
	t.Helper()
	if deep == 0 {
		return 1
	}
	var came []kept
	for _, c := range []call{
		{'a', of(0, 1)}, {'a', of(1, 65535)}, {'a', of(65534, 2)}, {'a', of(0, 3)},
		{what: 't'},
		{'r', of(0, 0)}, {'r', of(1, 0)}, {'r', of(65534, 0)},
	} {
		r, s := did(t, k.r, k.s, c)
		came = append(came, kept{r, s})
	}
	n := 1
	for _, next := range came {
		n += grows(t, next, deep-1)
	}
	for _, next := range came {
		shows(t, next.r, next.s.all()...)
	}
	shows(t, k.r, k.s.all()...)
	return n
}

// P13.1, P13.4, P13.5: all orders of calls of few threads, from different
// beginnings.
func TestAllShortOrders(t *testing.T) {
	if n := grows(t, kept{s: slow{}}, 5); n != 1+8+64+512+4096+32768 {
		t.Errorf("%d rings came", n)
	}
	for _, those := range [][]int{{3}, {0, 65534}, {3, 4, 1}, {5, 6, 7, 8}, {1, 5, 6, 7, 8}, {5, 6, 7, 8, 9, 10}} {
		for _, r := range wound(t, ofAll(those...)...) {
			grows(t, kept{r, slowOf(ofAll(those...))}, 3)
		}
	}
}

// P13.1, P13.4, P13.5: calls of no pattern, of few threads and of many, each of a
// ring that was answered at any time ahead, all of which are looked at again.
func TestAllOrders(t *testing.T) {
	n := numbers(3)
	for _, those := range [][]int{
		{0, 65534}, {0, 1, 2}, {-1, 0, 1, 2, 3, 4, 5, 6, 65535},
		slices.Concat(threads, noThreads[:3]), n.mixed(65535)[:60],
	} {
		all := []kept{{s: slow{}}}
		long := 0
		for i := range 1500 {
			from := len(all) - 1
			if n.below(5) == 0 {
				from = n.below(len(all))
			}
			r, s := did(t, all[from].r, all[from].s, n.some(those))
			all = append(all, kept{r, s})
			if long = max(long, r.Len()); i%100 == 0 {
				for _, k := range all {
					shows(t, k.r, k.s.all()...)
				}
			}
		}
		for _, k := range all {
			shows(t, k.r, k.s.all()...)
		}
		if long < 2 || len(those) > 5 && long < 5 {
			t.Errorf("at most %d of %v were there: too few to tell", long, those)
		}
	}
}

// P13.5: a ring that was answered is as it was behind every further call on it
// and on what came of it.
func TestAnsweredStays(t *testing.T) {
	for _, r := range begun(t) {
		was := r.All()
		next, s := r, slowOf(was)
		for _, c := range slices.Concat(calls, calls) {
			did(t, r, slowOf(was), c)
			next, s = did(t, next, s, c)
			shows(t, r, was...)
		}
		for range next.Len() {
			first, _ := next.First()
			next, s = did(t, next, s, call{'r', first})
			next, s = did(t, next, s, call{'a', of(99, 9)})
			next, s = did(t, next, s, call{what: 't'})
			shows(t, r, was...)
		}
	}
}

// R4: an answer of All is the caller's: to write into it, or behind it, turns no
// ring and no other answer, and no later call turns it.
func TestAllIsTheCallers(t *testing.T) {
	for name, r := range begun(t) {
		want := r.All()
		list, other := r.All(), r.All()
		next, more, same := r.Turn(), added(t, r, of(33, 3)), r
		less := r
		if len(want) > 0 {
			less = removed(t, r, want[0])
			same, _ = r.Add(want[0])
		}
		for i := range list {
			list[i] = of(40+i, 400)
		}
		_ = append(list[:len(list)/2], ofAll(90, 91, 92, 93, 94, 95, 96, 97, 98, 99)...)
		shows(t, r, want...)
		shows(t, same, want...)
		shows(t, next, turned(want)...)
		shows(t, more, with(want, of(33, 3))...)
		shows(t, less, want[min(1, len(want)):]...)
		if !slices.Equal(other, want) {
			t.Errorf("%s: another answer is %v by now", name, other)
		}
		all := r.All()
		for _, c := range calls {
			did(t, r, slowOf(want), c)
		}
		if !slices.Equal(all, want) {
			t.Errorf("%s: what was answered is %v by now", name, all)
		}
	}
}
