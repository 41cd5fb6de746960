package queue_test

import (
	"math"
	"slices"
	"strconv"
	"testing"

	"futtock/queue"
)

// threads are such as there are, the first one and the last one among them.
var threads = []int{0, 1, 2, 7, 255, 256, 32767, 32768, 65533, 65534}

// wrong are none, though some have the lowest bits of one.
var wrong = []int{-1, -2, -65534, -65535, -65536, 65535, 65536, 65537, 131072, 1 << 31, 1 << 32, 1<<32 + 1, -1 << 32, math.MaxInt, math.MaxInt - 1, math.MinInt, math.MinInt + 1}

// made is a queue of those threads, each appended.
func made(t *testing.T, those ...int) queue.Queue {
	t.Helper()
	q := queue.Queue{}
	for _, thread := range those {
		next, ok := q.Append(thread)
		if !ok {
			t.Fatalf("Append(%d) to %v is false", thread, q.All())
		}
		q = next
	}
	return q
}

// shows tells of what a queue of those threads, in that order, should show and
// doesn't, twice.
func shows(t *testing.T, q queue.Queue, those ...int) {
	t.Helper()
	for range 2 {
		if l := q.All(); !slices.Equal(l, those) {
			t.Fatalf("All is %v, not %v", l, those)
		}
		if n := q.Len(); n != len(those) {
			t.Fatalf("Len of %v is %d", those, n)
		}
		for _, thread := range those {
			has(t, q, thread, true)
		}
	}
}

// has tells whether Has answers that of a thread.
func has(t *testing.T, q queue.Queue, thread int, want bool) {
	t.Helper()
	if ok := q.Has(thread); ok != want {
		t.Fatalf("Has(%d) of %v is %v", thread, q.All(), ok)
	}
}

// showsAll tells of what a queue should show and doesn't, of threads that are
// there, of others, and of what is none.
func showsAll(t *testing.T, q queue.Queue, those ...int) {
	t.Helper()
	shows(t, q, those...)
	for _, thread := range threads {
		has(t, q, thread, slices.Contains(those, thread))
	}
	for _, thread := range those {
		for _, other := range []int{thread - 1, thread + 1, thread ^ 1} {
			has(t, q, other, slices.Contains(those, other))
		}
	}
	for _, thread := range wrong {
		has(t, q, thread, false)
	}
}

// appended does an Append that may be.
func appended(t *testing.T, q queue.Queue, thread int) queue.Queue {
	t.Helper()
	next, ok := q.Append(thread)
	if !ok {
		t.Fatalf("Append(%d) to %v is false", thread, q.All())
	}
	return next
}

// notAppended does an Append that may not be: the queue that it answers is the
// one that was, which is of those threads.
func notAppended(t *testing.T, q queue.Queue, thread int, those ...int) {
	t.Helper()
	same, ok := q.Append(thread)
	if ok {
		t.Fatalf("Append(%d) to %v is true", thread, those)
	}
	shows(t, same, those...)
	shows(t, q, those...)
}

// drained does a Drain of so many that may be.
func drained(t *testing.T, q queue.Queue, chain []int, want int) queue.Queue {
	t.Helper()
	next, n := q.Drain(chain)
	if n != want {
		t.Fatalf("Drain(%v) of %v is of %d, not %d", chain, q.All(), n, want)
	}
	return next
}

// popped does a Pop of that thread.
func popped(t *testing.T, q queue.Queue, want int) queue.Queue {
	t.Helper()
	thread, next, ok := q.Pop()
	if thread != want || !ok {
		t.Fatalf("Pop of %v is %d, %v, not %d", q.All(), thread, ok, want)
	}
	return next
}

// notPopped does a Pop of a queue that is empty, and answers the same one.
func notPopped(t *testing.T, q queue.Queue) queue.Queue {
	t.Helper()
	thread, same, ok := q.Pop()
	if thread != -1 || ok {
		t.Fatalf("Pop of %v is %d, %v", q.All(), thread, ok)
	}
	shows(t, same)
	shows(t, q)
	return same
}

// removed does a Remove of a thread that is there.
func removed(t *testing.T, q queue.Queue, thread int) queue.Queue {
	t.Helper()
	next, ok := q.Remove(thread)
	if !ok {
		t.Fatalf("Remove(%d) of %v is false", thread, q.All())
	}
	return next
}

// notRemoved does a Remove of a thread that is not there: the queue that it
// answers is the one that was, which is of those threads.
func notRemoved(t *testing.T, q queue.Queue, thread int, those ...int) {
	t.Helper()
	same, ok := q.Remove(thread)
	if ok {
		t.Fatalf("Remove(%d) of %v is true", thread, those)
	}
	shows(t, same, those...)
	shows(t, q, those...)
}

// numbers are of no pattern, and the same ones each time.
type numbers uint64

func (n *numbers) below(end int) int {
	*n = *n*6364136223846793005 + 1442695040888963407
	return int(uint64(*n) >> 33 % uint64(end))
}

// mixed are numbers from 0 on, so many, in no order.
func (n *numbers) mixed(many int) []int {
	l := make([]int, many)
	for i := range l {
		j := n.below(i + 1)
		l[i], l[j] = l[j], i
	}
	return l
}

// slow is what a queue should be: when each thread that is there came. It is
// never turned, either: each call answers a new one.
type slow map[int]int

// with is it with a thread that came later than all.
func (s slow) with(thread int) slow {
	when := 1
	u := slow{}
	for other, came := range s {
		u[other], when = came, max(when, came+1)
	}
	u[thread] = when
	return u
}

// without is it without a thread.
func (s slow) without(thread int) slow {
	u := slow{}
	for other, came := range s {
		if other != thread {
			u[other] = came
		}
	}
	return u
}

// has tells whether a thread is there.
func (s slow) has(thread int) bool { return s[thread] != 0 }

// all are the threads by when they came.
func (s slow) all() []int {
	var l []int
	for thread := range s {
		l = append(l, thread)
	}
	slices.SortFunc(l, func(a, b int) int { return s[a] - s[b] })
	return l
}

func (s slow) append(thread int) (slow, bool) {
	if thread < 0 || thread > 65534 || s.has(thread) {
		return s, false
	}
	return s.with(thread), true
}

func (s slow) drain(chain []int) (slow, int) {
	n := 0
	for at := len(chain); at > 0; at-- {
		next, ok := s.append(chain[at-1])
		if ok {
			s, n = next, n+1
		}
	}
	return s, n
}

func (s slow) pop() (int, slow, bool) {
	if len(s) == 0 {
		return -1, s, false
	}
	first := s.all()[0]
	return first, s.without(first), true
}

func (s slow) remove(thread int) (slow, bool) {
	return s.without(thread), s.has(thread)
}

// call is one of the calls that answer a queue.
type call struct {
	what   byte // 'a', 'd', 'p' or 'r'
	thread int
	chain  []int
}

func (c call) String() string {
	s := string(rune(c.what)) + " " + strconv.Itoa(c.thread)
	for _, thread := range c.chain {
		s += " " + strconv.Itoa(thread)
	}
	return s
}

// did does a call of a queue and of what it should be, and tells what came of
// both.
func did(t *testing.T, q queue.Queue, s slow, c call) (queue.Queue, slow) {
	t.Helper()
	was := q.All()
	var got, want any
	var next queue.Queue
	var then slow
	switch c.what {
	case 'a':
		next, got = second(q.Append(c.thread))
		then, want = second(s.append(c.thread))
	case 'd':
		chain := slices.Clone(c.chain)
		next, got = second(q.Drain(chain))
		then, want = second(s.drain(c.chain))
		if !slices.Equal(chain, c.chain) {
			t.Fatalf("%v: Drain has turned its chain: %v", c, chain)
		}
	case 'p':
		thread, p, ok := q.Pop()
		wantThread, u, wantOK := s.pop()
		next, got = p, [2]any{thread, ok}
		then, want = u, [2]any{wantThread, wantOK}
	case 'r':
		next, got = second(q.Remove(c.thread))
		then, want = second(s.remove(c.thread))
	}
	if got != want {
		t.Fatalf("%v: of %v is %v, not %v", c, was, got, want)
	}
	shows(t, next, then.all()...)
	shows(t, q, was...)
	return next, then
}

// second lets an answer's second part be of any type.
func second[Q, A any](q Q, a A) (Q, any) { return q, a }

// some does a call of no pattern, of those numbers.
func (n *numbers) some(those []int) call {
	c := call{what: "aaadppr"[n.below(7)]}
	switch c.what {
	case 'a', 'r':
		c.thread = those[n.below(len(those))]
	case 'd':
		for range n.below(6) {
			c.chain = append(c.chain, those[n.below(len(those))])
		}
	}
	return c
}

// P12.1, P12.2: the zero queue is empty, in every call.
func TestZero(t *testing.T) {
	showsAll(t, queue.Queue{})
	var q queue.Queue
	showsAll(t, notPopped(t, notPopped(t, q)))
	for _, thread := range slices.Concat(threads, wrong) {
		notRemoved(t, q, thread)
	}
	for _, thread := range wrong {
		notAppended(t, q, thread)
	}
	showsAll(t, drained(t, q, nil, 0))
	showsAll(t, drained(t, q, []int{}, 0))
	showsAll(t, drained(t, q, wrong, 0))
	showsAll(t, drained(t, q, []int{65534}, 1), 65534)
	showsAll(t, appended(t, q, 0), 0)
	showsAll(t, q)
	showsAll(t, queue.Queue{})
}

// P12.1: the document's example.
func TestDrainOfThree(t *testing.T) {
	q := drained(t, queue.Queue{}, []int{3, 2, 1}, 3)
	showsAll(t, q, 1, 2, 3)
	q = popped(t, q, 1)
	q = popped(t, q, 2)
	q = popped(t, q, 3)
	notPopped(t, q)
}

// P12.1: whoever is appended is last.
func TestAppend(t *testing.T) {
	for _, those := range [][]int{
		{0}, {65534}, {0, 65534}, {65534, 0}, {1, 2, 3}, {3, 2, 1}, {2, 3, 1},
		{5, 0, 65534, 32768, 1}, threads, {9, 8, 7, 6, 5, 4, 3, 2, 1, 0},
	} {
		q := queue.Queue{}
		for i, thread := range those {
			q = appended(t, q, thread)
			showsAll(t, q, those[:i+1]...)
		}
		for i, thread := range those {
			q = popped(t, q, thread)
			showsAll(t, q, those[i+1:]...)
		}
		notPopped(t, q)
	}
}

// P12.1: whoever is there is not appended, wherever it stands.
func TestAppendOfWhatIsThere(t *testing.T) {
	for _, those := range [][]int{{0}, {65534}, {0, 65534}, {4, 2, 9}, {65534, 3, 0, 1, 2}} {
		q := made(t, those...)
		for _, thread := range those {
			notAppended(t, q, thread, those...)
			notAppended(t, q, thread, those...)
		}
		q = appended(t, q, 77)
		shows(t, q, append(slices.Clone(those), 77)...)
		notAppended(t, q, 77, append(slices.Clone(those), 77)...)
	}
}

// P12.1: a thread that was popped is appended anew, and is last then.
func TestAppendOfWhatWasPopped(t *testing.T) {
	q := made(t, 0)
	for range 5 {
		q = popped(t, q, 0)
		showsAll(t, q)
		q = appended(t, q, 0)
		showsAll(t, q, 0)
	}
	q = made(t, 65534, 0, 8)
	for range 5 {
		q = appended(t, popped(t, q, 65534), 65534)
		showsAll(t, q, 0, 8, 65534)
		q = appended(t, popped(t, q, 0), 0)
		showsAll(t, q, 8, 65534, 0)
		q = appended(t, popped(t, q, 8), 8)
		showsAll(t, q, 65534, 0, 8)
		notAppended(t, q, 65534, 65534, 0, 8)
	}
}

// P12.1, P12.2: a thread that was removed is appended anew, and is last then,
// wherever it stood.
func TestAppendOfWhatWasRemoved(t *testing.T) {
	for _, those := range [][]int{{0}, {65534}, {0, 65534}, {4, 2, 9}, {65534, 3, 0, 1, 2}} {
		for at, thread := range those {
			others := slices.Delete(slices.Clone(those), at, at+1)
			anew := append(slices.Clone(others), thread)
			q := made(t, those...)
			less := removed(t, q, thread)
			showsAll(t, less, others...)
			more := appended(t, less, thread)
			showsAll(t, more, anew...)
			notAppended(t, more, thread, anew...)
			showsAll(t, less, others...)
			showsAll(t, q, those...)
		}
	}
}

// P12.1: a Pop of the only thread leaves an empty queue, which takes threads as
// any other one.
func TestPopOfTheOnlyOne(t *testing.T) {
	for _, thread := range threads {
		q := made(t, thread)
		empty := popped(t, q, thread)
		showsAll(t, empty)
		showsAll(t, notPopped(t, empty))
		notRemoved(t, empty, thread)
		showsAll(t, appended(t, empty, thread), thread)
		showsAll(t, drained(t, empty, []int{6, 5, thread}, 3), thread, 5, 6)
		showsAll(t, empty)
		showsAll(t, q, thread)
	}
}

// P12.2: a Remove of any thread, first, in the middle, last or the only one,
// leaves the others in their order.
func TestRemove(t *testing.T) {
	for _, x := range []struct {
		those  []int
		thread int
		then   []int
	}{
		{[]int{0}, 0, nil},
		{[]int{65534}, 65534, nil},
		{[]int{0, 65534}, 0, []int{65534}},
		{[]int{0, 65534}, 65534, []int{0}},
		{[]int{1, 2, 3}, 1, []int{2, 3}},
		{[]int{1, 2, 3}, 2, []int{1, 3}},
		{[]int{1, 2, 3}, 3, []int{1, 2}},
		{[]int{9, 4, 65534, 0, 7}, 9, []int{4, 65534, 0, 7}},
		{[]int{9, 4, 65534, 0, 7}, 4, []int{9, 65534, 0, 7}},
		{[]int{9, 4, 65534, 0, 7}, 65534, []int{9, 4, 0, 7}},
		{[]int{9, 4, 65534, 0, 7}, 0, []int{9, 4, 65534, 7}},
		{[]int{9, 4, 65534, 0, 7}, 7, []int{9, 4, 65534, 0}},
	} {
		q := made(t, x.those...)
		less := removed(t, q, x.thread)
		showsAll(t, less, x.then...)
		notRemoved(t, less, x.thread, x.then...)
		showsAll(t, q, x.those...)
	}
}

// P12.2: a Remove of a thread that is not there is false, and turns nothing.
func TestRemoveOfWhatIsNotThere(t *testing.T) {
	for _, those := range [][]int{nil, {3}, {32766, 32769}, {65532, 9, 5}, {3, 4, 5, 6, 8}} {
		q := made(t, those...)
		for _, thread := range slices.Concat(threads, wrong) {
			notRemoved(t, q, thread, those...)
		}
		showsAll(t, q, those...)
	}
}

// P12.1: a Drain appends from a chain's last one on to its first, as far as that
// may be, and tells how many.
func TestDrain(t *testing.T) {
	for _, x := range []struct {
		those, chain []int
		n            int
		then         []int
	}{
		{nil, nil, 0, nil},
		{nil, []int{}, 0, nil},
		{nil, []int{0}, 1, []int{0}},
		{nil, []int{65534}, 1, []int{65534}},
		{nil, []int{65534, 0}, 2, []int{0, 65534}},
		{nil, []int{0, 65534, 7, 2}, 4, []int{2, 7, 65534, 0}},
		{[]int{4}, nil, 0, []int{4}},
		{[]int{4}, []int{}, 0, []int{4}},
		{[]int{4}, []int{5}, 1, []int{4, 5}},
		{[]int{4, 5}, []int{8, 7, 6}, 3, []int{4, 5, 6, 7, 8}},
		// Some are there already: at its beginning, within it, at its end, all.
		{[]int{4}, []int{4}, 0, []int{4}},
		{[]int{4, 5}, []int{4, 6, 7}, 2, []int{4, 5, 7, 6}},
		{[]int{4, 5}, []int{6, 4, 7}, 2, []int{4, 5, 7, 6}},
		{[]int{4, 5}, []int{6, 7, 5}, 2, []int{4, 5, 7, 6}},
		{[]int{4, 5}, []int{4, 9, 5}, 1, []int{4, 5, 9}},
		{[]int{0, 9, 65534}, []int{65534, 8, 0, 7, 9}, 2, []int{0, 9, 65534, 7, 8}},
		{[]int{4, 5}, []int{5, 4}, 0, []int{4, 5}},
		{[]int{4, 5}, []int{4, 5, 5, 4}, 0, []int{4, 5}},
		// Some stand there twice: where they stand last is where they are taken.
		{nil, []int{3, 3}, 1, []int{3}},
		{nil, []int{3, 3, 3, 3}, 1, []int{3}},
		{nil, []int{1, 2, 1}, 2, []int{1, 2}},
		{nil, []int{2, 1, 1}, 2, []int{1, 2}},
		{nil, []int{1, 1, 2}, 2, []int{2, 1}},
		{nil, []int{0, 65534, 0, 65534, 5, 0}, 3, []int{0, 5, 65534}},
		{[]int{2}, []int{1, 2, 1, 3, 2}, 2, []int{2, 3, 1}},
		// Some are none.
		{nil, []int{-1}, 0, nil},
		{nil, []int{65535}, 0, nil},
		{[]int{4}, []int{-1}, 0, []int{4}},
		{nil, []int{-1, 2, 1}, 2, []int{1, 2}},
		{nil, []int{2, -1, 1}, 2, []int{1, 2}},
		{nil, []int{2, 1, 65535}, 2, []int{1, 2}},
		{nil, []int{-1, 2, 65535, 1, math.MinInt}, 2, []int{1, 2}},
		{[]int{1}, []int{-1, 3, -1, 65535, 1, 3, 65536, 2, math.MaxInt}, 2, []int{1, 2, 3}},
		{[]int{0}, wrong, 0, []int{0}},
	} {
		q := made(t, x.those...)
		showsAll(t, drained(t, q, x.chain, x.n), x.then...)
		showsAll(t, q, x.those...)
	}
}

// P12.1: a Drain is what Appends from the chain's end on are.
func TestDrainIsAppends(t *testing.T) {
	n := numbers(5)
	for range 3000 {
		q := queue.Queue{}
		for range n.below(6) {
			q, _ = q.Append(n.below(12))
		}
		chain := make([]int, n.below(12))
		for i := range chain {
			chain[i] = n.below(16) - 2
		}
		was, want, many := q.All(), q, 0
		for at := len(chain); at > 0; at-- {
			next, ok := want.Append(chain[at-1])
			if ok {
				want, many = next, many+1
			}
		}
		shows(t, drained(t, q, chain, many), want.All()...)
		shows(t, q, was...)
	}
}

// P12.1, P12.2: what is no thread is refused by every call, by queues of none, of
// one and of several, and nothing is turned.
func TestNoThreads(t *testing.T) {
	for _, those := range [][]int{nil, {0}, {65534}, {0, 65534}, {1, 65533, 0, 65534}} {
		q := made(t, those...)
		for _, thread := range wrong {
			notAppended(t, q, thread, those...)
			notRemoved(t, q, thread, those...)
			has(t, q, thread, false)
			showsAll(t, drained(t, q, []int{thread}, 0), those...)
			showsAll(t, drained(t, q, []int{thread, 9, thread}, 1), append(slices.Clone(those), 9)...)
		}
		showsAll(t, q, those...)
	}
}

// P12.1, P12.2: every thread may be there, alone, and all at once.
func TestEveryThread(t *testing.T) {
	for thread := range 65535 {
		q, ok := queue.Queue{}.Append(thread)
		if !ok || !q.Has(thread) || q.Len() != 1 {
			t.Fatalf("Append(%d) is %v, %v", thread, q.All(), ok)
		}
		q, n := queue.Queue{}.Drain([]int{thread})
		if n != 1 || !q.Has(thread) || q.Len() != 1 {
			t.Fatalf("Drain of %d is %v, %d", thread, q.All(), n)
		}
	}
	n := numbers(7)
	those := n.mixed(65535)
	chain := slices.Clone(those)
	slices.Reverse(chain)
	full := drained(t, queue.Queue{}, chain, 65535)
	if !slices.Equal(full.All(), those) || full.Len() != 65535 {
		t.Fatal("all threads are not there in their order")
	}
	for range 100 {
		if _, ok := full.Append(n.below(65535)); ok {
			t.Fatal("a thread was appended to all")
		}
	}
	drained(t, full, n.mixed(65535), 0)
	drained(t, full, slices.Concat(wrong, n.mixed(70000)), 0)
	q := full
	for _, thread := range those {
		q = popped(t, q, thread)
	}
	showsAll(t, q)
	if !slices.Equal(full.All(), those) {
		t.Fatal("Pop has turned what was")
	}
}

// P12.1: a chain may be far longer than a queue.
func TestDrainOfALongChain(t *testing.T) {
	n := numbers(9)
	chain := make([]int, 3_000_000)
	for i := range chain {
		chain[i] = n.below(70000) - 2000
	}
	var want []int
	var there [65535]bool
	for at := len(chain); at > 0; at-- {
		thread := chain[at-1]
		if thread >= 0 && thread < 65535 && !there[thread] {
			there[thread], want = true, append(want, thread)
		}
	}
	q := drained(t, queue.Queue{}, chain, len(want))
	if !slices.Equal(q.All(), want) {
		t.Error("a long chain's threads are not there in their order")
	}
	part := drained(t, made(t, want[len(want)-1], want[0]), chain, len(want)-2)
	if part.Len() != len(want) || part.All()[0] != want[len(want)-1] || part.All()[2] != want[1] {
		t.Error("a long chain's threads are not behind those that were there")
	}
}

// P12.3: whoever was appended first is popped first, however appends, drains and
// pops come: threads are of rising numbers as they come, and pop so.
func TestFirstComeFirstGone(t *testing.T) {
	n := numbers(11)
	q := queue.Queue{}
	next, last := 0, -1
	for next < 4000 {
		switch n.below(4) {
		case 0:
			q = appended(t, q, next)
			next++
		case 1:
			var chain []int
			for many := n.below(5); many > 0; many-- {
				chain = append(chain, next+many-1)
			}
			q = drained(t, q, chain, len(chain))
			next += len(chain)
		default:
			thread, rest, ok := q.Pop()
			if ok != (last+1 < next) || ok && thread != last+1 {
				t.Fatalf("Pop is %d, %v behind %d", thread, ok, last)
			}
			if q = rest; ok {
				last = thread
			}
		}
	}
	for ; last+1 < next; last++ {
		q = popped(t, q, last+1)
	}
	notPopped(t, q)
}

// P12.3: one that is removed lets those behind it be popped in their order still.
func TestRemovedAreNotPopped(t *testing.T) {
	n := numbers(13)
	for range 300 {
		those := n.mixed(20)
		q := made(t, those...)
		for _, thread := range n.mixed(20)[:n.below(21)] {
			q = removed(t, q, thread)
			those = slices.DeleteFunc(those, func(other int) bool { return other == thread })
			shows(t, q, those...)
		}
		for _, thread := range those {
			q = popped(t, q, thread)
			has(t, q, thread, false)
		}
		notPopped(t, q)
	}
}

// begun are queues that came of different calls, with their threads.
func begun(t *testing.T) map[string]queue.Queue {
	t.Helper()
	d := drained(t, queue.Queue{}, []int{5, 4, 3, 2, 1}, 5)
	return map[string]queue.Queue{
		"zero":              {},
		"one":               made(t, 1),
		"two":               made(t, 1, 2),
		"three":             made(t, 1, 2, 3),
		"five":              made(t, 1, 2, 3, 4, 5),
		"nine":              made(t, 1, 2, 3, 4, 5, 6, 7, 8, 9),
		"drained":           d,
		"drained and more":  drained(t, made(t, 6), []int{3, 2, 1}, 3),
		"popped":            popped(t, d, 1),
		"popped empty":      popped(t, made(t, 1), 1),
		"first removed":     removed(t, d, 1),
		"middle removed":    removed(t, d, 3),
		"last removed":      removed(t, d, 5),
		"last three":        popped(t, popped(t, d, 1), 2),
		"first three":       removed(t, removed(t, d, 5), 4),
		"between":           popped(t, removed(t, d, 5), 1),
		"popped, appended":  appended(t, popped(t, d, 1), 1),
		"removed, appended": appended(t, removed(t, d, 5), 5),
	}
}

// calls are of all kinds, of threads that begun ones have and have not.
var calls = []call{
	{what: 'p'},
	{what: 'a', thread: 1}, {what: 'a', thread: 10}, {what: 'a', thread: 11}, {what: 'a', thread: 65534}, {what: 'a', thread: -1}, {what: 'a', thread: 65535},
	{what: 'r', thread: 1}, {what: 'r', thread: 2}, {what: 'r', thread: 3}, {what: 'r', thread: 4}, {what: 'r', thread: 5}, {what: 'r', thread: -1},
	{what: 'd'}, {what: 'd', chain: []int{12}}, {what: 'd', chain: []int{14, 13}}, {what: 'd', chain: []int{15, 1, 16, -1, 15}}, {what: 'd', chain: []int{17, 18, 19, 20, 21, 22, 23, 24, 25}},
}

// slowOf is what a queue of those threads should be.
func slowOf(those []int) slow {
	s := slow{}
	for _, thread := range those {
		s = s.with(thread)
	}
	return s
}

// P12.4: two queues that were made out of one by different calls are each as if
// the other were not, and the one is as it was.
func TestTwoOutOfOne(t *testing.T) {
	for name, q := range begun(t) {
		was := q.All()
		s := slowOf(was)
		for _, a := range calls {
			for _, b := range calls {
				t.Run(name+": "+a.String()+", "+b.String(), func(t *testing.T) {
					x, u := did(t, q, s, a)
					y, v := did(t, q, s, b)
					shows(t, x, u.all()...)
					did(t, x, u, b)
					did(t, y, v, a)
					shows(t, x, u.all()...)
					shows(t, y, v.all()...)
					shows(t, q, was...)
				})
			}
		}
	}
}

// kept is a queue, and what it should be.
type kept struct {
	q queue.Queue
	s slow
}

// grows does all calls of few threads of a queue, and all of what comes of them,
// so deep, and looks at each queue again behind all that came of it and of those
// beside it.
func grows(t *testing.T, k kept, deep int) int {
	t.Helper()
	if deep == 0 {
		return 1
	}
	var came []kept
	for _, c := range []call{
		{what: 'a', thread: 0}, {what: 'a', thread: 1}, {what: 'a', thread: 65534},
		{what: 'd', chain: []int{1, 0}}, {what: 'd', chain: []int{65534, 2, 0}},
		{what: 'p'},
		{what: 'r', thread: 0}, {what: 'r', thread: 1}, {what: 'r', thread: 65534},
	} {
		q, s := did(t, k.q, k.s, c)
		came = append(came, kept{q, s})
	}
	n := 1
	for _, next := range came {
		n += grows(t, next, deep-1)
	}
	for _, next := range came {
		shows(t, next.q, next.s.all()...)
	}
	shows(t, k.q, k.s.all()...)
	return n
}

// P12.1 to P12.4: all orders of calls of few threads, from different beginnings.
func TestAllShortOrders(t *testing.T) {
	if n := grows(t, kept{s: slow{}}, 4); n != 1+9+81+729+6561 {
		t.Errorf("%d queues came", n)
	}
	for _, those := range [][]int{{3}, {0, 65534}, {3, 4, 1}, {5, 6, 7, 8}, {1, 5, 6, 7, 8}, {5, 6, 7, 8, 9, 10}} {
		grows(t, kept{made(t, those...), slowOf(those)}, 3)
	}
}

// P12.1 to P12.4: calls of no pattern, of few threads and of many, each of a
// queue that was answered at any time ahead, all of which are looked at again.
func TestAllOrders(t *testing.T) {
	n := numbers(3)
	for _, those := range [][]int{
		{0, 65534}, {0, 1, 2}, {-1, 0, 1, 2, 3, 4, 5, 6, 65535},
		slices.Concat(threads, wrong[:3]), n.mixed(65535)[:60],
	} {
		all := []kept{{s: slow{}}}
		long := 0
		for i := range 1500 {
			from := len(all) - 1
			if n.below(5) == 0 {
				from = n.below(len(all))
			}
			q, s := did(t, all[from].q, all[from].s, n.some(those))
			all = append(all, kept{q, s})
			if long = max(long, q.Len()); i%100 == 0 {
				for _, k := range all {
					shows(t, k.q, k.s.all()...)
				}
			}
		}
		for _, k := range all {
			shows(t, k.q, k.s.all()...)
		}
		if long < 2 || len(those) > 5 && long < 5 {
			t.Errorf("at most %d of %v were there: too few to tell", long, those)
		}
	}
}

// P12.4: a queue that was answered is as it was behind every further call on it
// and on what came of it.
func TestAnsweredStays(t *testing.T) {
	for _, q := range begun(t) {
		was := q.All()
		next, s := q, slowOf(was)
		for _, c := range slices.Concat(calls, calls) {
			did(t, q, slowOf(was), c)
			next, s = did(t, next, s, c)
			shows(t, q, was...)
		}
		for range next.Len() {
			next, s = did(t, next, s, call{what: 'p'})
			next, s = did(t, next, s, call{what: 'a', thread: 99})
			shows(t, q, was...)
		}
	}
}

// R4: a chain is the caller's: no call writes into it, and a queue is not turned
// by what the caller writes into it behind the call.
func TestChainIsTheCallers(t *testing.T) {
	for _, those := range [][]int{nil, {9}, {9, 8, 7}} {
		for _, want := range [][]int{{1}, {1, 2}, {1, 2, 3, 4, 5}} {
			whole := make([]int, 3*len(want))
			chain := whole[:len(want)]
			copy(chain, want)
			slices.Reverse(chain)
			was := slices.Clone(whole)
			q := drained(t, made(t, those...), chain, len(want))
			then := slices.Concat(those, want)
			q2 := appended(t, q, 77)
			popped(t, q, then[0])
			removed(t, q, 1)
			if !slices.Equal(whole, was) {
				t.Fatalf("Drain has turned its chain %v: %v", was, whole)
			}
			for i := range whole {
				whole[i] = 50 + i
			}
			showsAll(t, q, then...)
			showsAll(t, q2, append(slices.Clone(then), 77)...)
			shows(t, drained(t, q, chain, len(chain)), slices.Concat(then, backward(chain))...)
		}
	}
}

// backward is a list from its end on.
func backward(l []int) []int {
	l = slices.Clone(l)
	slices.Reverse(l)
	return l
}

// R4: an answer of All is the caller's: to write into it, or behind it, turns no
// queue and no other answer, and no later call turns it.
func TestAllIsTheCallers(t *testing.T) {
	for name, q := range begun(t) {
		want := q.All()
		list, other := q.All(), q.All()
		less, more := q, appended(t, q, 33)
		if len(want) > 0 {
			less = popped(t, q, want[0])
		}
		for i := range list {
			list[i] = 40 + i
		}
		_ = append(list[:len(list)/2], 90, 91, 92, 93, 94, 95, 96, 97, 98, 99)
		showsAll(t, q, want...)
		showsAll(t, more, append(slices.Clone(want), 33)...)
		showsAll(t, less, want[min(1, len(want)):]...)
		if !slices.Equal(other, want) {
			t.Errorf("%s: another answer is %v by now", name, other)
		}
		all := q.All()
		for _, c := range calls {
			did(t, q, slowOf(want), c)
		}
		if !slices.Equal(all, want) {
			t.Errorf("%s: what was answered is %v by now", name, all)
		}
	}
}
