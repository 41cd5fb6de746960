package safe_test

import (
	"testing"

	"futtock/api"
	"futtock/safe"
)

// numbers are of no pattern, and the same ones each time.
type numbers uint64

func (n *numbers) below(end int) int {
	*n = *n*6364136223846793005 + 1442695040888963407
	return int(uint64(*n) >> 33 % uint64(end))
}

// acts are all calls that there are of so many threads.
func acts(size int) []act {
	all := []act{{letter: 'R'}, {letter: 'D'}}
	for thread := range size {
		for _, state := range states {
			all = append(all, act{'P', thread, state})
		}
	}
	return all
}

// P17.1 to P17.4: all calls of few threads, in all orders, up to so many of
// them.
func TestAllOrdersOfFew(t *testing.T) {
	for _, x := range []struct{ size, length int }{{1, 6}, {2, 5}, {3, 4}} {
		calls, many := acts(x.size), 1
		for range x.length {
			many *= len(calls)
		}
		for nr := range many {
			m, l := made(t, x.size), begun(x.size)
			for rest, i := nr, 0; i < x.length; rest, i = rest/len(calls), i+1 {
				l.same(t, m, calls[rest%len(calls)])
			}
			l.agree(t, m)
		}
	}
}

// course sees by itself that none that stands goes on as long as something is
// requested: whether something is, it takes of what was answered.
type course struct{ wanted bool }

func (c *course) see(t *testing.T, m *safe.Meet, a act, was int) {
	t.Helper()
	n, err := call(m, a)
	switch {
	case a.letter == 'R':
		c.wanted = true
	case a.letter == 'D' && err == api.OK:
		if n < 1 {
			t.Fatalf("a Done that was OK told %d", n)
		}
		c.wanted = false
	case a.letter == 'P' && c.wanted && was == 1 && m.State(a.thread) == 0:
		t.Fatalf("%d stood, and went on while something is requested", a.thread)
	}
	if c.wanted && m.State(a.thread) == 1 && m.May(a.thread) {
		t.Fatalf("%d stands, and may go on while something is requested", a.thread)
	}
}

// nth is a call of no pattern: few threads end, as nothing turns them any more.
func (n *numbers) nth(size int) act {
	switch k := n.below(40); {
	case k < 3:
		return act{letter: 'R'}
	case k < 8:
		return act{letter: 'D'}
	case k == 8 && n.below(10) == 0:
		return act{'P', n.below(size), 3}
	}
	return act{'P', n.below(size), n.below(3)}
}

// told is a call, and the error that it told.
type told struct {
	letter byte
	err    api.Errno
}

// P17.1, P17.2: long rows of all calls, with all that there is asked behind
// each, held against the second reckoning.
func TestLongRows(t *testing.T) {
	n := numbers(17)
	for _, size := range []int{1, 2, 3, 5, 40, 256} {
		times := map[told]int{}
		for range 10 {
			m, l := made(t, size), begun(size)
			for i := range 300 {
				// Of many threads one Runs nearly always, so all are stopped now and then.
				for thread := 0; i%60 == 59 && thread < size; thread++ {
					l.same(t, m, act{'P', thread, 1 + n.below(2)})
				}
				a := n.nth(size)
				times[told{a.letter, l.same(t, m, a)}]++
				l.agree(t, m)
				l.same(t, m, act{'P', a.thread, l.state(a.thread)})
				l.agree(t, m)
			}
			for thread := range size {
				l.same(t, m, act{'P', thread, 3})
			}
			l.same(t, m, act{letter: 'R'})
			l.same(t, m, act{letter: 'D'})
			l.agree(t, m)
		}
		for _, x := range []told{{'R', api.OK}, {'D', api.OK}, {'D', api.ErrState}, {'P', api.OK}, {'P', api.ErrState}} {
			if times[x] < 10 {
				t.Errorf("of %d threads %c told %d %d times: too few to tell", size, x.letter, x.err, times[x])
			}
		}
	}
}

// P17.3: as long as something is requested none that stands goes on, whatever is
// called between.
func TestNoneThatStandsGoesOn(t *testing.T) {
	n := numbers(3)
	for _, size := range []int{1, 2, 7, 256} {
		m, c := made(t, size), course{}
		stood := 0
		for range 20000 {
			a := n.nth(size)
			if a.state == 3 {
				a.state = 1
			}
			was := m.State(a.thread)
			if c.wanted && was == 1 && a.letter == 'P' && a.state == 0 {
				stood++
			}
			c.see(t, m, a, was)
		}
		if stood < 100 {
			t.Errorf("of %d threads only %d times one that stood was to go on", size, stood)
		}
	}
}

// P17.3: who stands is let go by the Done alone, not by calls of others.
func TestWhoStandsIsLetGoByDone(t *testing.T) {
	for _, size := range sizes {
		m := made(t, size)
		put(t, m, 0, 1)
		request(t, m, 0, 1)
		stays := func() {
			t.Helper()
			if err := m.Put(0, 0); err != api.ErrState || m.State(0) != 1 || m.May(0) {
				t.Fatalf("0 stands, and a Put to Runs is %d, it is %d, May is %v", err, m.State(0), m.May(0))
			}
		}
		stays()
		for thread := 1; thread < size; thread++ {
			refused(t, m)
			stays()
			put(t, m, thread, thread%3+1)
			stays()
		}
		request(t, m, 1, 1)
		stays()
		put(t, m, 0, 1)
		stays()
		done(t, m, 2)
		if !m.May(0) {
			t.Fatal("0 stands, nothing is requested, and it may not go on")
		}
		put(t, m, 0, 0)
	}
}

// P17.4: in whatever order the threads that Run come to stand, to sleep, or end,
// Done is refused ahead of the last one, and OK right behind it; one that sleeps
// may run again between, and then holds it up.
func TestDoneAsTheLastCame(t *testing.T) {
	n := numbers(4)
	for _, size := range sizes {
		for turn := range 9 {
			m := made(t, size)
			order := make([]int, size)
			for i := range order {
				j := n.below(i + 1)
				order[i], order[j] = order[j], i
			}
			request(t, m, 0, turn+1)
			for _, thread := range order {
				refused(t, m)
				is(t, m, true, false, 0)
				put(t, m, thread, (thread+turn)%3+1)
			}
			is(t, m, true, true, 0)
			woke := order[0]
			if turn >= 6 && m.State(woke) == 2 {
				put(t, m, woke, 0)
				is(t, m, true, false, 0)
				refused(t, m)
				put(t, m, woke, 1)
			}
			done(t, m, turn+1)
			is(t, m, false, true, 1)
		}
	}
}
