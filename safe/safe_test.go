package safe_test

import (
	"math"
	"testing"

	"futtock/api"
	"futtock/safe"
)

// sizes are numbers of threads that there may be.
var sizes = []int{1, 2, 3, 8, 100, 255, 256}

// wrongSizes are such as there may not be.
var wrongSizes = []int{
	0, -1, -2, -255, -256, -257, 257, 258, 512, 4096, 65536, 1 << 32, 1<<32 + 1, -1 << 32, math.MaxInt, math.MinInt, math.MinInt + 1,
}

// states are all that there are, written out.
var states = []int{0, 1, 2, 3}

// some are a first, a middle and a last thread of so many.
func some(size int) []int { return []int{0, size / 2, size - 1} }

// made is a rendezvous of so many threads.
func made(t *testing.T, size int) *safe.Meet {
	t.Helper()
	m, err := safe.New(size)
	if m == nil || err != api.OK {
		t.Fatalf("New(%d) is %v, %d", size, m, err)
	}
	return m
}

// put puts a thread into a state, and tells if that may not be.
func put(t *testing.T, m *safe.Meet, thread, state int) {
	t.Helper()
	if err := m.Put(thread, state); err != api.OK {
		t.Fatalf("Put(%d, %d) is %d", thread, state, err)
	}
}

// putAll puts all threads of so many into one state.
func putAll(t *testing.T, m *safe.Meet, size, state int) {
	t.Helper()
	for thread := range size {
		put(t, m, thread, state)
	}
}

// request asks so often, behind as many that wait, and tells of a wrong count.
func request(t *testing.T, m *safe.Meet, waits, times int) {
	t.Helper()
	for i := range times {
		if n := m.Request(); n != waits+i+1 {
			t.Fatalf("Request behind %d is %d", waits+i, n)
		}
	}
}

// done does one that may be: so many waited for it.
func done(t *testing.T, m *safe.Meet, waited int) {
	t.Helper()
	if n, err := m.Done(); n != waited || err != api.OK {
		t.Fatalf("Done is %d, %d, and %d waited", n, err, waited)
	}
}

// refused does a Done that may not be.
func refused(t *testing.T, m *safe.Meet) {
	t.Helper()
	if n, err := m.Done(); n != 0 || err != api.ErrState {
		t.Fatalf("Done is %d, %d", n, err)
	}
}

// is tells of what is asked of a whole rendezvous that it is not.
func is(t *testing.T, m *safe.Meet, wanted, still bool, rounds int) {
	t.Helper()
	if a, b, c := m.Wanted(), m.Still(), m.Rounds(); a != wanted || b != still || c != rounds {
		t.Fatalf("Wanted, Still, Rounds are %v, %v, %d, not %v, %v, %d", a, b, c, wanted, still, rounds)
	}
}

// The states' numbers are the chapter's.
func TestStates(t *testing.T) {
	for i, state := range []int{safe.Runs, safe.Stands, safe.Sleeps, safe.Ended} {
		if state != i {
			t.Errorf("the state %d is %d", i, state)
		}
	}
}

// isNew tells of what a rendezvous of so many threads is not, as a new one is.
func isNew(t *testing.T, m *safe.Meet, size int) {
	t.Helper()
	is(t, m, false, false, 0)
	for thread := range size {
		if s := m.State(thread); s != 0 || !m.May(thread) {
			t.Fatalf("of %d threads %d is %d at first, May is %v", size, thread, s, m.May(thread))
		}
	}
	if a, b := m.State(-1), m.State(size); a != -1 || b != -1 {
		t.Fatalf("of %d threads -1 is %d, %d is %d", size, a, size, b)
	}
	refused(t, m)
}

// P17.1: of a new rendezvous all threads Run, there are just so many, and
// nothing is requested; and one is not another one.
func TestNew(t *testing.T) {
	for _, size := range sizes {
		other := made(t, size)
		putAll(t, other, size, 1)
		request(t, other, 0, 3)
		m := made(t, size)
		isNew(t, m, size)
		done(t, other, 3)
		isNew(t, m, size)
	}
}

// P17.1: so many threads there may not be.
func TestNewOfWhatMayNotBe(t *testing.T) {
	for _, size := range wrongSizes {
		if m, err := safe.New(size); m != nil || err != api.ErrArg {
			t.Errorf("New(%d) is %v, %d", size, m, err)
		}
	}
}

// verdicts are of each state, put into each of the four, written out.
var verdicts = map[bool][4][4]api.Errno{
	false: {{0, 0, 0, 0}, {0, 0, 0, 0}, {0, 0, 0, 0}, {9, 9, 9, 0}},
	true:  {{0, 0, 0, 0}, {9, 0, 0, 0}, {0, 0, 0, 0}, {9, 9, 9, 0}},
}

// P17.1: each state, put into each of the four, with nothing requested, with
// one and with several; what was refused turned nothing, and no Put turned
// another thread, or who waits.
func TestPut(t *testing.T) {
	for _, size := range []int{1, 2, 9, 256} {
		for _, thread := range some(size) {
			for _, requests := range []int{0, 1, 5} {
				for _, from := range states {
					for _, to := range states {
						putOne(t, size, thread, requests, from, to)
					}
				}
			}
		}
	}
}

// among is a rendezvous of which one thread is in a state, and all others stand
// still, in the three ways.
func among(t *testing.T, size, thread, state int) *safe.Meet {
	t.Helper()
	m := made(t, size)
	for other := range size {
		if other != thread {
			put(t, m, other, other%3+1)
		}
	}
	put(t, m, thread, state)
	return m
}

func putOne(t *testing.T, size, thread, requests, from, to int) {
	t.Helper()
	m := among(t, size, thread, from)
	request(t, m, 0, requests)
	want, state := verdicts[requests > 0][from][to], to
	if want != api.OK {
		state = from
	}
	if err := m.Put(thread, to); err != want {
		t.Fatalf("with %d requested a Put of %d to %d is %d", requests, from, to, err)
	}
	for other := range size {
		if s := m.State(other); other == thread && s != state || other != thread && s != other%3+1 {
			t.Fatalf("with %d requested behind a Put of %d from %d to %d the thread %d is %d", requests, thread, from, to, other, s)
		}
	}
	is(t, m, requests > 0, state != 0, 0)
	if requests == 0 || state == 0 {
		refused(t, m)
	} else {
		done(t, m, requests)
	}
}

// P17.1: a thread goes through all states one behind the other, as often as it
// does, until it ended.
func TestPutInARow(t *testing.T) {
	for _, size := range sizes {
		for _, thread := range some(size) {
			m := made(t, size)
			for _, state := range []int{0, 1, 1, 0, 2, 2, 0, 1, 2, 1, 0, 0, 3, 3, 3} {
				put(t, m, thread, state)
				if s := m.State(thread); s != state {
					t.Fatalf("%d, put to %d, is %d", thread, state, s)
				}
			}
		}
	}
}

// P17.1: each Request tells how many wait by it, whatever the threads do
// between, and the count begins anew behind a Done alone.
func TestRequest(t *testing.T) {
	for _, size := range sizes {
		m := made(t, size)
		request(t, m, 0, 1)
		is(t, m, true, false, 0)
		request(t, m, 1, 99)
		refused(t, m)
		request(t, m, 100, 1)
		for thread := range size {
			request(t, m, 101+thread, 1)
			put(t, m, thread, 1)
		}
		request(t, m, 101+size, 1)
		is(t, m, true, true, 0)
		done(t, m, 102+size)
		is(t, m, false, true, 1)
		request(t, m, 0, 2)
	}
}

// P17.2: Wanted, Still and May of a thread in each state, all others standing
// still in the three ways, with nothing requested and with something.
func TestMay(t *testing.T) {
	may := map[bool][4]bool{
		false: {true, true, false, false},
		true:  {true, false, false, false},
	}
	for _, size := range sizes {
		for _, thread := range some(size) {
			for _, requests := range []int{0, 1, 2} {
				for _, state := range states {
					m := among(t, size, thread, state)
					request(t, m, 0, requests)
					is(t, m, requests > 0, state != 0, 0)
					for other := range size {
						if ok := m.May(other); ok != may[requests > 0][m.State(other)] {
							t.Fatalf("with %d requested May of one that is %d is %v", requests, m.State(other), ok)
						}
					}
				}
			}
		}
	}
}

// P17.2: all stand still in one way, or in all three of them.
func TestStill(t *testing.T) {
	for _, size := range sizes {
		for _, state := range []int{1, 2, 3} {
			m := made(t, size)
			putAll(t, m, size, state)
			is(t, m, false, true, 0)
			refused(t, m)
			request(t, m, 0, 1)
			is(t, m, true, true, 0)
			for thread := range size {
				if m.May(thread) {
					t.Fatalf("all are %d, and %d may go on while something is requested", state, thread)
				}
			}
			done(t, m, 1)
			is(t, m, false, true, 1)
			for thread := range size {
				if m.May(thread) != (state == 1) {
					t.Fatalf("all are %d, and May(%d) is %v behind Done", state, thread, m.May(thread))
				}
			}
			refused(t, m)
			is(t, m, false, true, 1)
		}
	}
}

// P17.2: one that Runs alone is enough that all do not stand still, whichever
// it is; Done is refused then, and turns nothing.
func TestDoneWhileOneRuns(t *testing.T) {
	for _, size := range sizes {
		for thread := range size {
			m := made(t, size)
			for other := range size {
				if other != thread {
					put(t, m, other, 1+(thread+other)%3)
				}
			}
			request(t, m, 0, 4)
			for range 2 {
				refused(t, m)
				is(t, m, true, false, 0)
				for other := range size {
					if want := 1 + (thread+other)%3; other != thread && m.State(other) != want {
						t.Fatalf("%d is %d behind a Done that was refused, not %d", other, m.State(other), want)
					}
				}
			}
			request(t, m, 4, 1)
			put(t, m, thread, 3)
			done(t, m, 5)
		}
	}
}

// P17.2: Done is OK as the last one that Runs came to stand, to sleep, ended;
// behind it nothing is requested, and who stands may go on; a second one is
// refused.
func TestDone(t *testing.T) {
	for _, size := range sizes {
		for _, last := range []int{1, 2, 3} {
			for _, requests := range []int{1, 2, 77} {
				m := made(t, size)
				for thread := range size - 1 {
					put(t, m, thread, 1)
				}
				request(t, m, 0, requests)
				refused(t, m)
				put(t, m, size-1, last)
				done(t, m, requests)
				is(t, m, false, true, 1)
				for thread := range size {
					if want := thread < size-1 || last == 1; m.May(thread) != want {
						t.Fatalf("behind Done May(%d) is %v", thread, !want)
					}
				}
				for range 2 {
					refused(t, m)
					is(t, m, false, true, 1)
				}
			}
		}
	}
}

// P17.2: rounds behind one another, each of which is counted, with as many
// requests as there are of it; who stood runs between.
func TestRounds(t *testing.T) {
	for _, size := range sizes {
		m := made(t, size)
		for round := range 50 {
			requests := round*7%5 + 1
			request(t, m, 0, requests)
			putAll(t, m, size, 1+round%2)
			done(t, m, requests)
			is(t, m, false, true, round+1)
			putAll(t, m, size, 0)
			is(t, m, false, false, round+1)
		}
		putAll(t, m, size, 3)
		for round := range 50 {
			request(t, m, 0, 1)
			done(t, m, 1)
			is(t, m, false, true, 51+round)
		}
	}
}

// P17.2: the document's example.
func TestDoneAsLongAsOneRuns(t *testing.T) {
	for _, size := range sizes {
		m := made(t, size)
		request(t, m, 0, 1)
		for thread := range size {
			refused(t, m)
			put(t, m, thread, 1)
		}
		done(t, m, 1)
	}
}
