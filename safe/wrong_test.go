package safe_test

import (
	"math"
	"testing"

	"futtock/api"
	"futtock/safe"
)

// wrongThreads are such as a rendezvous of so many does not have.
func wrongThreads(size int) []int {
	return []int{
		-1, -2, -size, -256, size, size + 1, 2*size + 255, 256, 257, 65536, 1 << 32, 1<<32 + 1, -1 << 32, math.MaxInt, math.MinInt, math.MinInt + 1,
	}
}

// wrongStates are such as there are none.
var wrongStates = []int{
	-1, -2, -4, 4, 5, 7, 8, 256, 257, 65536, 1 << 32, 1<<32 + 1, -1 << 32, math.MaxInt, math.MinInt, math.MinInt + 1,
}

// nobodys are such as New did not give.
func nobodys() []*safe.Meet {
	refused, _ := safe.New(0)
	return []*safe.Meet{nil, {}, new(safe.Meet), refused}
}

// noSuchPut tells of a Put of a thread or a state that is none, or of both, that
// is not refused as one.
func noSuchPut(t *testing.T, m *safe.Meet, size int) {
	t.Helper()
	wrong := func(thread, state int) {
		if err := m.Put(thread, state); err != api.ErrArg {
			t.Fatalf("of %d threads Put(%d, %d) is %d", size, thread, state, err)
		}
	}
	for _, thread := range wrongThreads(size) {
		for _, state := range append(states, wrongStates...) {
			wrong(thread, state)
		}
	}
	for thread := range size {
		for _, state := range wrongStates {
			wrong(thread, state)
		}
	}
}

// P17.1, R7: a Put of a thread or a state that is none is ErrArg, also where it
// would be ErrState of another one, and turns nothing.
func TestPutOfWhatIsNone(t *testing.T) {
	for _, size := range []int{1, 2, 5, 256} {
		for _, requests := range []int{0, 3} {
			m := made(t, size)
			l := begun(size)
			for thread := range size {
				l.same(t, m, act{'P', thread, (thread + size) % 4})
			}
			for range requests {
				l.same(t, m, act{letter: 'R'})
			}
			noSuchPut(t, m, size)
			l.agree(t, m)
			l.same(t, m, act{letter: 'D'})
			for thread := range size {
				l.same(t, m, act{'P', thread, 3})
			}
			noSuchPut(t, m, size)
			l.agree(t, m)
			l.same(t, m, act{letter: 'D'})
		}
	}
}

// P17.1, P17.2: the state of a thread that is none is -1, and it may not go on,
// with nothing requested and with something.
func TestThreadThatIsNone(t *testing.T) {
	for _, size := range sizes {
		for _, requests := range []int{0, 1} {
			for _, state := range states {
				m := made(t, size)
				request(t, m, 0, requests)
				putAll(t, m, size, state)
				for _, thread := range wrongThreads(size) {
					if s := m.State(thread); s != -1 || m.May(thread) {
						t.Fatalf("of %d threads %d is %d, May is %v", size, thread, s, m.May(thread))
					}
				}
			}
		}
	}
}

// P17.2: a rendezvous that New did not give has nothing, whatever is asked; and
// no call makes one of it.
func TestNobodys(t *testing.T) {
	threads := append([]int{0, 1, 255}, wrongThreads(1)...)
	for i, m := range nobodys() {
		for range 2 {
			for _, thread := range threads {
				for _, state := range append(states, wrongStates...) {
					if err := m.Put(thread, state); err != api.ErrNil {
						t.Fatalf("%d: Put(%d, %d) is %d", i, thread, state, err)
					}
				}
				if s := m.State(thread); s != -1 || m.May(thread) {
					t.Fatalf("%d: State(%d) is %d, May %v", i, thread, s, m.May(thread))
				}
			}
			if n := m.Request(); n != 0 {
				t.Fatalf("%d: Request is %d", i, n)
			}
			if n, err := m.Done(); n != 0 || err != api.ErrNil {
				t.Fatalf("%d: Done is %d, %d", i, n, err)
			}
			is(t, m, false, false, 0)
		}
	}
}
