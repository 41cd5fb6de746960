package wfg_test

import (
	"fmt"
	"slices"
	"testing"

	"futtock/api"
	"futtock/core"
	"futtock/wfg"
)

// P26.2: two threads, each of which wants what the other one owns; nothing helps them.
func TestRingOfTwo(t *testing.T) {
	m := made(t, small(2, 2), "enter 0; enter 1", "enter 1; enter 0")
	follows(t, m, `
		         |         |
		0<0      |         |
		1<0      |         |
		0!       | 0>1     |
		1!       | 0>1 1>0 | 0 1
		+1000    | 0>1 1>0 | 0 1
		d        | 0>1 1>0 | 0 1
		0! 1!    | 0>1 1>0 | 0 1`)
}

// P26.2: a thread has an edge from the step on at which it falls asleep: as long as it
// looks, spins, or inflates what it wants to enter, it has none.
func TestEdgeAsOneFallsAsleep(t *testing.T) {
	for _, spin := range []int{0, 8} {
		c := small(2, 1)
		c.Spin = spin
		m := made(t, c, "enter 0", "enter 0")
		does(t, m, "0!")
		for !m.Asleep(1) {
			shows(t, m, fmt.Sprint(m.Steps(), " steps"), "", "")
			does(t, m, "1")
		}
		shows(t, m, "its sleep", "1>0", "")
	}
}

// P26.2: three threads in a ring, in either direction.
func TestRingOfThree(t *testing.T) {
	m := made(t, small(3, 3), "enter 0; enter 1", "enter 1; enter 2", "enter 2; enter 0")
	follows(t, m, `
		0<0 1<0 2<0 |             |
		1!          | 1>2         |
		0!          | 0>1 1>2     |
		2!          | 0>1 1>2 2>0 | 0 1 2`)
	m = made(t, small(3, 3), "enter 0; enter 2", "enter 1; enter 0", "enter 2; enter 1")
	follows(t, m, `
		0<0 1<0 2<0 |             |
		1! 2!       | 1>0 2>1     |
		0!          | 0>2 1>0 2>1 | 0 1 2`)
}

// P26.2: who waits for one of a ring is stuck, too, and who waits for that one; who waits
// for another one is not.
func TestBehindARing(t *testing.T) {
	m := made(t, small(8, 5),
		"enter 0; enter 1", "enter 1; enter 0", "enter 2; enter 0", "enter 2", "enter 1", "enter 3", "enter 3; exit 3", "enter 4")
	follows(t, m, `
		0<0 1<0 2<0 5<0 |                             |
		2! 3! 4! 6!     | 2>0 3>2 4>1 6>5             |
		0!              | 0>1 2>0 3>2 4>1 6>5         |
		1!              | 0>1 1>0 2>0 3>2 4>1 6>5     | 0 1 2 3 4
		7!              | 0>1 1>0 2>0 3>2 4>1 6>5     | 0 1 2 3 4`)
}

// P26.2: two rings beside each other, and who is behind each.
func TestTwoRings(t *testing.T) {
	m := made(t, small(6, 4),
		"enter 0; enter 1", "enter 1; enter 0", "enter 2; enter 3", "enter 3; enter 2", "enter 3", "enter 0")
	follows(t, m, `
		0<0 1<0 2<0 3<0 |                             |
		4! 5!           | 4>3 5>0                     |
		2! 3!           | 2>3 3>2 4>3 5>0             | 2 3 4
		0! 1!           | 0>1 1>0 2>3 3>2 4>3 5>0     | 0 1 2 3 4 5`)
	if l := wfg.Of(m).Ring(); !slices.Equal(l, []int{0, 1}) {
		t.Errorf("the ring is %v", l)
	}
}

// P26.2: who is handed the monitor waits for nobody, and the others for that one.
func TestHandedOn(t *testing.T) {
	m := made(t, small(3, 1), "enter 0; enter 0; exit 0; exit 0", "enter 0; exit 0", "enter 0; exit 0")
	follows(t, m, `
		0<1   |         |
		1! 2! | 1>0 2>0 |
		0<2   | 1>0 2>0 |
		0<3   | 2>1     |
		1     | 2>1     |
		1!    |         |
		2!    |         |`)
}

// P26.2: who sleeps in a Wait has no edge, until it is told; who told it is owner still.
func TestWaitTold(t *testing.T) {
	for _, tell := range []string{"notify 0", "all 0"} {
		m := made(t, small(2, 1), "enter 0; wait 0; exit 0", "enter 0; "+tell+"; exit 0")
		follows(t, m, `
			0!  |     |
			1<0 |     |
			1<1 | 0>1 |
			1<2 |     |
			0!  |     |`)
		if !m.Ended(0) || !m.Ended(1) {
			t.Error("they did not end")
		}
	}
}

// P26.2: of two who wait the one that was told has an edge, as long as the other one does
// not own what both want.
func TestWaitOneIsTold(t *testing.T) {
	m := made(t, small(3, 1), "enter 0; wait 0; notify 0; exit 0", "enter 0; wait 0; exit 0", "enter 0; notify 0; exit 0")
	follows(t, m, `
		0! 1! |     |
		2<0   |     |
		2<1   | 0>2 |
		2<2   |     |
		0<1   |     |
		0<2   | 1>0 |
		0<3   |     |
		1!    |     |`)
}

// P26.2: who is late has no edge as it is awake, and one as it sleeps to enter anew.
func TestWaitTimedOut(t *testing.T) {
	m := made(t, small(2, 1), "enter 0; wait 0 5; exit 0", "enter 0; exit 0")
	follows(t, m, `
		0! 1<0 |     |
		+4     |     |
		0!     |     |
		+1     |     |
		0*3    |     |
		0!     | 0>1 |
		+50    | 0>1 |
		1!     |     |
		0!     |     |`)
}

// P26.2: so has who was interrupted.
func TestWaitInterrupted(t *testing.T) {
	m := made(t, small(3, 1), "enter 0; wait 0; exit 0", "enter 0; exit 0", "interrupt 0")
	follows(t, m, `
		0! 1<0 |     |
		2!     |     |
		0*3    |     |
		0!     | 0>1 |
		1!     |     |
		0!     |     |`)
}

// P26.2: who waits for one that sleeps in a Wait is not stuck, nor is that one, as it may
// be late, or be interrupted; as it wants to enter anew then, both are.
func TestRingThroughAWait(t *testing.T) {
	for _, x := range []struct{ wait, third, moves string }{
		{"wait 0 9", "", "+9"},
		{"wait 0", "interrupt 0", "2!"},
		{"wait 0 9", "interrupt 0", "2! +9"},
	} {
		m := made(t, small(3, 2), "enter 1; enter 0; "+x.wait, "enter 0; enter 1", x.third)
		follows(t, m, `
			0!  |     |
			1<0 |     |
			1!  | 1>0 |
			`+x.moves+` | 1>0 |
			0!  | 0>1 1>0 | 0 1`)
	}
}

// P26.2: who waits for one that sleeps in a Wait goes on behind it, if that is told.
func TestBehindAWait(t *testing.T) {
	for _, tell := range []string{"notify 0", "all 0"} {
		m := made(t, small(3, 2), "enter 1; enter 0; wait 0; exit 0; exit 1", "enter 1; exit 1", "enter 0; "+tell+"; exit 0")
		follows(t, m, `
			0!  |         |
			1!  | 1>0     |
			2<0 | 1>0     |
			2<1 | 0>2 1>0 |
			2!  | 1>0     |
			0!  |         |
			1!  |         |`)
	}
}

// P26.2: one that was told, and the one that told it and wants what that one owns.
func TestRingThroughOneThatWasTold(t *testing.T) {
	for _, tell := range []string{"notify 0", "all 0"} {
		m := made(t, small(2, 2), "enter 1; enter 0; wait 0", "enter 0; "+tell+"; enter 1")
		follows(t, m, `
			0!    |         |
			1<0   |         |
			1<1   | 0>1     |
			1!    | 0>1 1>0 | 0 1
			0! 1! | 0>1 1>0 | 0 1`)
	}
}

// P26.2: each sleeps in a Wait at what the other one wants: nobody is stuck, though
// nobody goes on.
func TestAllInWaits(t *testing.T) {
	m := made(t, small(3, 2), "enter 0; wait 0", "enter 1; wait 1", "enter 0; enter 1; wait 1")
	follows(t, m, `
		0! 1! | |
		2!    | |`)
	if l := m.Runnable(); len(l) > 0 {
		t.Errorf("%v may go on", l)
	}
}

// P26.2, P26.5: one of a ring that is interrupted is awake for some steps, in which it has
// no edge; it sleeps again without having come to anything.
func TestInterruptedInARing(t *testing.T) {
	m := made(t, small(3, 2), "enter 0; enter 1", "enter 1; enter 0", "interrupt 0; interrupt 1; interrupt 0")
	follows(t, m, `
		0<0 1<0 0! 1! | 0>1 1>0 | 0 1
		2<0           | 1>0     |
		0!            | 0>1 1>0 | 0 1
		2<1           | 0>1     |
		1!            | 0>1 1>0 | 0 1
		2!            | 1>0     |
		0! 1!         | 0>1 1>0 | 0 1`)
	if returns(m, 0) != 1 || returns(m, 1) != 1 {
		t.Error("their operations returned")
	}
}

// P26.2: so it is of one that was told, or was late, and is interrupted as it wants to
// enter anew.
func TestInterruptedBehindAWait(t *testing.T) {
	for _, x := range []struct{ wait, moves string }{{"wait 0", ""}, {"wait 0 9", "+9 0!"}} {
		tell := "; notify 0"
		if x.moves != "" {
			tell = "; holds 0"
		}
		m := made(t, small(3, 2), "enter 1; enter 0; "+x.wait, "enter 0"+tell+"; enter 1", "interrupt 0")
		follows(t, m, `
			0! 1<1 `+x.moves+` | 0>1     |
			1!  | 0>1 1>0 | 0 1
			2!  | 1>0     |
			0!  | 0>1 1>0 | 0 1
			+99 | 0>1 1>0 | 0 1`)
	}
}

// P26.2: a machine of one thread has no edges, whatever it does.
func TestOneThread(t *testing.T) {
	for _, prog := range []string{"", "enter 0; enter 0; exit 0", "enter 0; wait 0; exit 0", "enter 0; wait 0 5; exit 0", "try 0; hash 0; notify 0; all 0; holds 0; interrupt 0; exit 0"} {
		m := made(t, small(1, 1), prog)
		for range 60 {
			m.Pick(0)
			shows(t, m, prog, "", "")
		}
		does(t, m, "+9 0!")
		shows(t, m, prog, "", "")
	}
}

// P26.2: machines in which nobody waits have no edges, and nobody is stuck.
func TestNobodyWaits(t *testing.T) {
	for _, c := range []api.Config{small(2, 1), small(8, 8), {Threads: 8, Objects: 8, Classes: 4, Slots: 16, Count: 60, Bias: 255, Rebias: 1, Revoke: 2}} {
		m := made(t, c)
		shows(t, m, "its beginning", "", "")
		m = made(t, c, "enter 0; enter 0; hash 0", "try 0; notify 0; all 0; wait 0; exit 0; interrupt 0")
		follows(t, m, "0! | |\n 1! | |\n + | |\n d | |")
	}
}

// eight is a machine of eight threads, each of which owns the object of its number, and
// then wants to enter another one, if there is one.
func eight(t testing.TB, bias uint8, wants func(thread int) int) *core.Machine {
	t.Helper()
	var texts []string
	for thread := range 8 {
		text := fmt.Sprint("enter ", thread)
		if obj := wants(thread); obj >= 0 {
			text += fmt.Sprint("; enter ", obj)
		}
		texts = append(texts, text)
	}
	c := small(8, 8)
	c.Bias = bias
	m := made(t, c, texts...)
	for thread := range 8 {
		does(t, m, fmt.Sprintf("%d<0", thread))
	}
	shows(t, m, "the first enters", "", "")
	return m
}

// all picks all threads as long as one goes on.
func all(m *core.Machine) {
	for on := true; on; {
		on = false
		for thread := range m.Config().Threads {
			on = m.Pick(thread) || on
		}
	}
}

// P26.2: machines of the most threads: a ring of all, a way of all, all behind one, and
// all behind a ring of two.
func TestEightThreads(t *testing.T) {
	for _, bias := range []uint8{0, 255} {
		for _, x := range []struct {
			wants       func(thread int) int
			graph       string
			stuck, ring string
		}{
			{func(thread int) int { return (thread + 1) % 8 }, "0>1 1>2 2>3 3>4 4>5 5>6 6>7 7>0", "0 1 2 3 4 5 6 7", "0 1 2 3 4 5 6 7"},
			{func(thread int) int { return (thread + 7) % 8 }, "0>7 1>0 2>1 3>2 4>3 5>4 6>5 7>6", "0 1 2 3 4 5 6 7", "0 7 6 5 4 3 2 1"},
			{func(thread int) int { return (thread + 3) % 8 }, "0>3 1>4 2>5 3>6 4>7 5>0 6>1 7>2", "0 1 2 3 4 5 6 7", "0 3 6 1 4 7 2 5"},
			{func(thread int) int { return (thread + 4) % 8 }, "0>4 1>5 2>6 3>7 4>0 5>1 6>2 7>3", "0 1 2 3 4 5 6 7", "0 4"},
			{func(thread int) int { return (thread+2)%9 - 1 }, "0>1 1>2 2>3 3>4 4>5 5>6 6>7", "", ""},
			{func(thread int) int { return thread - 1 }, "1>0 2>1 3>2 4>3 5>4 6>5 7>6", "", ""},
			{func(thread int) int { return min(thread-1, 0) }, "1>0 2>0 3>0 4>0 5>0 6>0 7>0", "", ""},
			{func(thread int) int { return thread ^ 1 }, "0>1 1>0 2>3 3>2 4>5 5>4 6>7 7>6", "0 1 2 3 4 5 6 7", "0 1"},
			{func(thread int) int { return min(7, thread+1) - thread/7 }, "0>1 1>2 2>3 3>4 4>5 5>6 6>7 7>6", "0 1 2 3 4 5 6 7", "6 7"},
			{func(thread int) int { return []int{3, 0, 1, 0, 4, 4, 5, 5}[thread] }, "0>3 1>0 2>1 3>0 5>4 6>5 7>5", "0 1 2 3", "0 3"},
			{func(thread int) int { return thread }, "", "", ""},
		} {
			m := eight(t, bias, x.wants)
			all(m)
			shows(t, m, "all", x.graph, x.stuck)
			if got := list(wfg.Of(m).Ring()); got != x.ring {
				t.Errorf("the ring of %s is %s", x.graph, got)
			}
		}
	}
}

// P26.2: machines that New did not give have no edges, and nobody is stuck in them.
func TestNoMachine(t *testing.T) {
	for _, m := range []*core.Machine{nil, {}, new(core.Machine)} {
		if g := wfg.Of(m); g != (wfg.Graph{}) {
			t.Errorf("its graph is %s", text(g))
		}
		if l := wfg.Stuck(m); len(l) > 0 {
			t.Errorf("%v are stuck", l)
		}
	}
}

// R3, R4: Of and Stuck turn nothing of a machine, what they answered is the caller's, and
// a graph stays as it was while the machine goes on.
func TestMachinesAreNotTurned(t *testing.T) {
	m := made(t, small(2, 2), "enter 0; enter 1", "enter 1; enter 0")
	does(t, m, "0<0 1<0 0! 1!")
	g, steps, entries := wfg.Of(m), m.Steps(), m.Log()
	first, second := wfg.Stuck(m), wfg.Stuck(m)
	clear(first)
	_ = append(first[:0], 9, 9, 9)
	want := []int{0, 1}
	if !slices.Equal(second, want) || !slices.Equal(wfg.Stuck(m), want) || wfg.Of(m) != g {
		t.Errorf("%v, %v are stuck, the graph is %s", second, wfg.Stuck(m), text(wfg.Of(m)))
	}
	if m.Steps() != steps || !slices.Equal(m.Log(), entries) || !m.Asleep(0) || !m.Asleep(1) {
		t.Error("the machine is turned")
	}
	m = made(t, small(2, 1), "enter 0; exit 0", "enter 0")
	does(t, m, "0<0 1!")
	was := wfg.Of(m)
	turned, _ := was.Add(0, 1)
	does(t, m, "0!")
	if text(was) != "1>0" || text(turned) != "0>1 1>0" || wfg.Of(m) != (wfg.Graph{}) {
		t.Errorf("the graph was %s, and is %s", text(was), text(wfg.Of(m)))
	}
}
