package safe_test

import (
	"testing"

	"futtock/api"
	"futtock/safe"
)

// act is a call that may turn something: Put, Request, Done.
type act struct {
	letter        byte
	thread, state int
}

// slow is a second reckoning, by what was done and was OK: which states each
// thread was in, one behind the other, and how many requests each round had, of
// which the last one is not done yet.
type slow struct {
	was      [][]int
	requests []int
}

func begun(size int) *slow {
	l := &slow{was: make([][]int, size), requests: []int{0}}
	for thread := range l.was {
		l.was[thread] = []int{0}
	}
	return l
}

func (l *slow) state(thread int) int { return l.was[thread][len(l.was[thread])-1] }

func (l *slow) waits() int { return l.requests[len(l.requests)-1] }

// run is how many do.
func (l *slow) run() int {
	n := 0
	for thread := range l.was {
		if l.state(thread) == 0 {
			n++
		}
	}
	return n
}

// may tells whether a thread would be let go on: by what stands in the chapter
// of its last state.
func (l *slow) may(thread int) bool {
	switch state := l.state(thread); {
	case state > 1:
		return false
	case l.waits() == 0:
		return true
	default:
		return state == 0
	}
}

// do does one, and tells what it answers.
func (l *slow) do(a act) (int, api.Errno) {
	last := len(l.requests) - 1
	switch a.letter {
	case 'R':
		l.requests[last]++
		return l.waits(), api.OK
	case 'D':
		if l.run() > 0 || l.waits() == 0 {
			return 0, api.ErrState
		}
		l.requests = append(l.requests, 0)
		return l.requests[last], api.OK
	}
	held := l.waits() > 0 && l.state(a.thread) == 1 && a.state == 0
	if held || l.state(a.thread) == 3 && a.state != 3 {
		return 0, api.ErrState
	}
	l.was[a.thread] = append(l.was[a.thread], a.state)
	return 0, api.OK
}

// call does one of a rendezvous; where it tells no number, or no error, that is
// 0.
func call(m *safe.Meet, a act) (int, api.Errno) {
	switch a.letter {
	case 'R':
		return m.Request(), api.OK
	case 'D':
		return m.Done()
	}
	return 0, m.Put(a.thread, a.state)
}

// same does one of both, tells if they do not answer the same, and answers the
// error.
func (l *slow) same(t *testing.T, m *safe.Meet, a act) api.Errno {
	t.Helper()
	n, err := call(m, a)
	if want, wantErr := l.do(a); n != want || err != wantErr {
		t.Fatalf("%c %d %d is %d, %d, not %d, %d", a.letter, a.thread, a.state, n, err, want, wantErr)
	}
	return err
}

// agree tells of what a rendezvous is not as it should be, asked twice.
func (l *slow) agree(t *testing.T, m *safe.Meet) {
	t.Helper()
	for range 2 {
		is(t, m, l.waits() > 0, l.run() == 0, len(l.requests)-1)
		for thread := range l.was {
			if s := m.State(thread); s != l.state(thread) {
				t.Fatalf("State(%d) is %d, not %d", thread, s, l.state(thread))
			}
			if ok := m.May(thread); ok != l.may(thread) {
				t.Fatalf("May(%d) is %v: it is %d, and %d wait", thread, ok, l.state(thread), l.waits())
			}
		}
	}
}
