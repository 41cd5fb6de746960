package core_test

import (
	"fmt"
	"slices"
	"testing"

	"futtock/api"
	"futtock/core"
	"futtock/model"
	"futtock/ring"
)

// P21.2, P21.3: one waits, and leaves the monitor to one that enters, by all its
// records; it is told, is in the queue then, and handed the monitor by the next exit,
// with all its records.
func TestWaitTold(t *testing.T) {
	follows(t, made(t, least(2), "enter 0; enter 0; wait 0; exit 0", "enter 0; notify 0; notify 0; exit 0; notify 0; all 0"), `
		0: t0 call 0 enter 0
		0:
		0: saved0.0 neutral #0
		0: t0 commit enter 0 0 ok; h0 thin t0 r0; records0.0 1
		0: t0 return 0 0 ok
		0: t0 call 1 enter 0
		0: t0 commit enter 0 0 ok; records0.0 2
		0: t0 return 1 0 ok
		1: t1 call 0 enter 0
		1:
		1:
		1: h0 0
		1:
		1: disp0 neutral #0
		1: lock0 t0/-
		1: h0 fat 0.0; pairs [{0 0 1}]; used [0]; left 0
		1:
		1:
		1:
		1: lock0 t0/t1
		0: t0 call 2 wait 0
		0:
		0: state0 1; ring0 [{0 2}]
		0:
		0: lock0 t0/-
		0: entry0 [1]
		0:
		0: t0 commit begin 0 0 ok; t1 commit enter 0 0 ok; lock0 t1/-; records0.0 0; records1.0 1; entry0 []
		0:
		0: asleep0 true
		1:
		1: t1 return 0 0 ok
		1: t1 call 1 notify 0
		1:
		1: t1 commit wake 0 0 ok; t1 commit notify 0 0 ok; state0 2; entry0 [0]; ring0 []
		1: t1 return 1 0 ok
		1: t1 call 2 notify 0
		1:
		1: t1 commit notify 0 -1 ok
		1: t1 return 2 -1 ok
		1: t1 call 3 exit 0
		1:
		1:
		d: wanted true
		1: t1 commit exit 0 0 ok; t0 commit end 0 0 ok; lock0 t0/-; records0.0 2; records1.0 0; asleep0 false; entry0 []
		1: t1 return 3 0 ok; wanted false; rounds 1
		1: t1 call 4 notify 0
		1: t1 commit notify 0 -1 state
		1: t1 return 4 -1 state
		1: t1 call 5 all 0
		1: t1 commit all 0 0 state
		1: t1 return 5 0 state; ended1 true
		0:
		0:
		0: state0 0
		0: t0 return 2 0 ok
		0: t0 call 3 exit 0
		0: t0 commit exit 0 0 ok; records0.0 1
		0: t0 return 3 0 ok; ended0 true
	`)
}

// P21.2: one that is late leaves by itself, and is in the ring still; who tells lets
// it go out of the ring, and takes the next one. The one that is late enters anew.
func TestWaitLateIsPassedBy(t *testing.T) {
	m := made(t, least(3), "enter 0; wait 0 1; exit 0", "enter 0; wait 0; exit 0", "enter 0; notify 0; notify 0; exit 0")
	exhaust(m, 0)
	exhaust(m, 1)
	calls(t, m, 2, 1)
	follows(t, m, `
		+1: asleep0 false; now 1
		0:
		0: t0 commit leave 0 0 time; state0 3
		0:
		0:
		0:
		0: lock0 t2/t0
		2:
		2: ring0 [{1 1}]
		2: t2 commit wake 0 1 ok; t2 commit notify 0 1 ok; state1 2; entry0 [1]; ring0 []
		2: t2 return 1 1 ok
		2: t2 call 2 notify 0
		2:
		2: t2 commit notify 0 -1 ok
		2: t2 return 2 -1 ok
		2: t2 call 3 exit 0
		2:
		2:
		2: lock0 t2/-
		2: entry0 [1 0]
		2:
		2: t2 commit exit 0 0 ok; t1 commit end 0 0 ok; lock0 t1/-; records1.0 1; records2.0 0; asleep1 false; entry0 [0]
		2: t2 return 3 0 ok; ended2 true
		0:
		0: asleep0 true
		1:
		1:
		1: state1 0
		1: t1 return 1 0 ok
		1: t1 call 2 exit 0
		1:
		1:
		1: t1 commit exit 0 0 ok; t0 commit end 0 0 time; lock0 t0/-; records0.0 1; records1.0 0; asleep0 false; entry0 []
		1: t1 return 2 0 ok; ended1 true
		0:
		0: state0 0
		0: t0 return 1 0 time
		0: t0 call 2 exit 0
		0:
		0:
		0: t0 commit exit 0 0 ok; lock0 -/-; records0.0 0
		0: t0 return 2 0 ok; ended0 true
		d: h0 neutral #0; pairs []; used []; left 1; rounds 1
	`)
}

// P21.2: one that is interrupted in its wait leaves by itself, enters anew, and the
// flag is taken as it owns the object again, be that by its own step or as it is handed
// the monitor; it goes out of the ring then.
func TestWaitInterrupted(t *testing.T) {
	m := made(t, least(2), "enter 0; enter 0; wait 0; exit 0", "interrupt 0; enter 0")
	exhaust(m, 0)
	follows(t, m, `
		1: t1 call 0 interrupt 0
		1: t1 commit interrupt 0 0 ok; asleep0 false; flag0 true
		0:
		1: t1 return 0 0 ok
		0: t0 commit leave 0 0 intr; state0 4
		0:
		0:
		0: t0 commit end 0 0 intr; lock0 t0/-; records0.0 2; flag0 false; ring0 []
		0: state0 0
		0: t0 return 2 0 intr
	`)
	m = made(t, least(2), "enter 0; enter 0; wait 0; exit 0", "enter 0; interrupt 0; exit 0")
	exhaust(m, 0)
	returns(t, m, 1, 0)
	follows(t, m, `
		1: t1 call 1 interrupt 0
		1: t1 commit interrupt 0 0 ok; asleep0 false; flag0 true
		1: t1 return 1 0 ok
		0:
		0: t0 commit leave 0 0 intr; state0 4
		0:
		0:
		0:
		0: lock0 t1/t0
		0:
		0: asleep0 true
		d: rounds 1
		1: t1 call 2 exit 0
		1:
		1:
		1: lock0 t1/-
		1: entry0 [0]
		1:
		1: t1 commit exit 0 0 ok; t0 commit end 0 0 intr; lock0 t0/-; records0.0 2; records1.0 0; asleep0 false; flag0 false; entry0 []; ring0 []
		1: t1 return 2 0 ok; ended1 true
		0:
		0: state0 0
		0: t0 return 2 0 intr
	`)
}

// P21.2: one that was told is not late, nor interrupted: it keeps its flag, and its
// alarm wakes it no more.
func TestWaitToldAhead(t *testing.T) {
	m := made(t, least(2), "enter 0; wait 0 5; exit 0", "enter 0; notify 0; interrupt 0; exit 0")
	exhaust(m, 0)
	returns(t, m, 1, 1)
	m.Tick(100)
	if !m.Asleep(0) || slices.Contains(m.Runnable(), 0) {
		t.Error("one that was told is woken by its alarm")
	}
	returns(t, m, 1, 2)
	if !m.Flag(0) || m.Asleep(0) {
		t.Error("one that was told is not interrupted, or not unparked")
	}
	exhaust(m, 0)
	if !m.Asleep(0) || m.Records(0, 0) != 0 {
		t.Error("one that was told goes on, and was handed nothing")
	}
	exhaust(m, 1)
	if n, err := returns(t, m, 0, 1); n != 0 || err != api.OK || !m.Flag(0) {
		t.Errorf("its wait told %d, %d; its flag is %v", n, err, m.Flag(0))
	}
	if wrong := unsound(m); wrong != "" {
		t.Error(wrong)
	}
}

// P21.2: one that has the flag, and whose alarm was due, is interrupted.
func TestWaitInterruptedAndLate(t *testing.T) {
	m := made(t, least(2), "enter 0; wait 0 1; exit 0", "interrupt 0")
	exhaust(m, 0)
	exhaust(m, 1)
	m.Tick(1)
	if _, err := returns(t, m, 0, 1); err != api.ErrIntr || m.Flag(0) || m.Word(stateCell) != 0 {
		t.Errorf("its wait told %d; its flag is %v", err, m.Flag(0))
	}
	if l := commits(m, model.Leave); len(l) != 1 || l[0].Err != api.ErrIntr {
		t.Errorf("it left by %v", l)
	}
}

// P21.2: one that was interrupted ahead of its wait, but behind its look at the flag,
// begins to wait, and leaves by itself.
func TestWaitInterruptedAsItBegins(t *testing.T) {
	m := made(t, least(2), "enter 0; wait 0; exit 0", "interrupt 0")
	until(t, m, 0, func() bool { return m.Word(stateCell) == ring.Waiting })
	exhaust(m, 1)
	if _, err := returns(t, m, 0, 1); err != api.ErrIntr || m.Flag(0) {
		t.Errorf("its wait told %d; its flag is %v", err, m.Flag(0))
	}
	if l := commits(m, model.Begin, model.Leave, model.End); len(l) != 3 || l[0].Err != api.OK || l[1].Err != api.ErrIntr || l[2].Err != api.ErrIntr {
		t.Errorf("its commits are %v", l)
	}
}

// P21.2: one that comes to wait leaves the monitor, whoever puts itself at its lock
// word between, and interrupts it: it begins to wait once, and leaves by itself then.
func TestWaitMetAsItLeaves(t *testing.T) {
	for _, queued := range []bool{false, true} {
		for steps := 2; steps <= 9; steps++ {
			m := made(t, least(3), "enter 0; hash 0; wait 0; exit 0", "enter 0; exit 0", "interrupt 0; enter 0; exit 0")
			returns(t, m, 0, 1)
			if queued {
				exhaust(m, 1)
			}
			calls(t, m, 0, 2)
			for range steps {
				m.Pick(0)
			}
			for range 5 {
				exhaust(m, 2)
				exhaust(m, 0)
				exhaust(m, 1)
			}
			if wrong := unsound(m); wrong != "" {
				t.Fatal(wrong)
			}
			e, ok := returned(m, 0, 2)
			l := commits(m, model.Begin, model.Leave, model.End)
			if !ok || e.Err != api.ErrIntr || len(l) != 3 || l[0].Err != api.OK || l[1].Err != api.ErrIntr || l[2].Err != api.ErrIntr {
				t.Errorf("behind %d steps its wait told %d: %v", steps, e.Err, l)
			}
			if m.Word(stateCell) != 0 || len(m.Ring(0)) != 0 || m.Flag(0) || !m.Ended(1) || !m.Ended(2) {
				t.Errorf("behind %d steps its state is %d, the ring %v", steps, m.Word(stateCell), m.Ring(0))
			}
		}
	}
}

// P21.2: a wait with an Arg is late behind just so many ticks, from its beginning on,
// one without never.
func TestWaitFor(t *testing.T) {
	for _, after := range []int64{1, 2, 3, 255, 65535, 65536, 999999, 1000000} {
		m := made(t, least(1), fmt.Sprintf("enter 0; wait 0 %d", after))
		m.Tick(17)
		exhaust(m, 0)
		m.Tick(after - 1)
		if m.Pick(0) || !m.Asleep(0) {
			t.Errorf("a wait for %d is over behind %d", after, after-1)
		}
		m.Tick(1)
		if _, err := returns(t, m, 0, 1); err != api.ErrTime || m.Now() != after+17 {
			t.Errorf("a wait for %d told %d at %d", after, err, m.Now())
		}
	}
	m := made(t, least(1), "enter 0; wait 0")
	exhaust(m, 0)
	m.Tick(api.MaxTicks)
	if m.Pick(0) || !m.Asleep(0) {
		t.Error("a wait for ever is over")
	}
}

// P21.2: whether one was late, and its alarm, are of one wait: the next one, for ever,
// is not late by them, however the one ahead ended.
func TestWaitAnew(t *testing.T) {
	for _, other := range []string{"holds 0", "interrupt 0", "enter 0; notify 0; exit 0"} {
		m := made(t, least(2), "enter 0; wait 0 5; wait 0; exit 0", other)
		exhaust(m, 0)
		exhaust(m, 1)
		if other == "holds 0" {
			m.Tick(5)
		}
		returns(t, m, 0, 1)
		for range 3 {
			if exhaust(m, 0); !m.Asleep(0) {
				t.Errorf("behind %s its next wait is over", other)
			}
			m.Tick(10)
		}
	}
}

// waiting is a machine on which all threads but the last one wait at the object 0, as
// they stand; the last one is to do what is told.
func waiting(t *testing.T, waiters int, arg string, last string) *core.Machine {
	t.Helper()
	var texts []string
	for range waiters {
		texts = append(texts, "enter 0; enter 0; wait 0"+arg+"; exit 0; exit 0")
	}
	m := made(t, with(least(waiters+1), func(c *api.Config) { c.Slots = 2 }), append(texts, last)...)
	for thread := range waiters {
		exhaust(m, thread)
	}
	returns(t, m, waiters, 0)
	return m
}

// threads are those of waiters.
func threads(l []ring.Waiter) []int {
	var all []int
	for _, w := range l {
		all = append(all, w.Thread)
	}
	return all
}

// P21.2: Notify wakes the ring's first, one by one; All wakes all, and tells how many;
// each is in the queue then, in that order, and is handed the monitor in it.
func TestNotifyAndAll(t *testing.T) {
	for waiters := 1; waiters <= 7; waiters++ {
		for ahead := 0; ahead <= waiters; ahead++ {
			prog := "enter 0"
			for range ahead {
				prog += "; notify 0"
			}
			m := waiting(t, waiters, "", prog+"; all 0; all 0; notify 0; exit 0")
			if got := m.Ring(0); len(got) != waiters || got[0] != (ring.Waiter{Thread: 0, Count: 2}) {
				t.Fatalf("the ring is %v", got)
			}
			var order []int
			for i := range ahead {
				n, err := returns(t, m, waiters, 1+i)
				order = append(order, i)
				if n != i || err != api.OK || !slices.Equal(m.Entry(0), order) || len(m.Ring(0)) != waiters-i-1 {
					t.Errorf("notify told %d, %d; the queue is %v, the ring %v", n, err, m.Entry(0), m.Ring(0))
				}
			}
			if n, err := returns(t, m, waiters, ahead+1); n != waiters-ahead || err != api.OK || len(m.Ring(0)) != 0 || len(m.Entry(0)) != waiters {
				t.Errorf("all of %d told %d, %d; the queue is %v", waiters-ahead, n, err, m.Entry(0))
			}
			if n, err := returns(t, m, waiters, ahead+2); n != 0 || err != api.OK {
				t.Errorf("all of nobody told %d, %d", n, err)
			}
			if n, err := returns(t, m, waiters, ahead+3); n != -1 || err != api.OK {
				t.Errorf("notify of nobody told %d, %d", n, err)
			}
			handedInOrder(t, m, waiters)
		}
	}
}

// handedInOrder lets all go on, and tells if those who waited do not own the object in
// the order of their threads, or one does not sleep till then.
func handedInOrder(t *testing.T, m *core.Machine, waiters int) {
	t.Helper()
	for thread := range waiters {
		if exhaust(m, thread); !m.Asleep(thread) {
			t.Errorf("%d was handed nothing, and does not sleep", thread)
		}
	}
	exhaust(m, waiters)
	for thread := range waiters {
		if m.Records(thread, 0) != 2 || m.Asleep(thread) {
			t.Errorf("%d has %d records, and sleeps: %v", thread, m.Records(thread, 0), m.Asleep(thread))
		}
		exhaust(m, thread)
		if e, ok := returned(m, thread, 2); !ok || e.Err != api.OK || !m.Ended(thread) {
			t.Errorf("%d did not return from its wait", thread)
		}
		if wrong := unsound(m); wrong != "" {
			t.Error(wrong)
		}
	}
	if m.Deflate(); len(m.Used()) != 0 {
		t.Errorf("in use is %v", m.Used())
	}
}

// P21.2: of several in the ring those that left by themselves are passed by, wherever
// they are in it, by Notify and by All.
func TestTellsPastThoseThatLeft(t *testing.T) {
	const waiters = 4
	for gone := range 1 << waiters {
		for _, tell := range []string{"notify 0", "all 0"} {
			prog := "enter 0"
			var stay []int
			interrupts := 0
			for thread := range waiters {
				if gone>>thread&1 == 1 {
					prog += fmt.Sprintf("; interrupt %d", thread)
					interrupts++
				} else {
					stay = append(stay, thread)
				}
			}
			m := waiting(t, waiters, "", prog+"; "+tell+"; exit 0")
			for i := range interrupts {
				returns(t, m, waiters, i+1)
			}
			for thread := range waiters {
				exhaust(m, thread)
				broken := m.Word(stateCell+thread) == ring.Broken
				if broken != (gone>>thread&1 == 1) || !m.Asleep(thread) {
					t.Errorf("the state of %d is %d, asleep: %v", thread, m.Word(stateCell+thread), m.Asleep(thread))
				}
			}
			if got := threads(m.Ring(0)); !slices.Equal(got, []int{0, 1, 2, 3}) {
				t.Errorf("who left by itself is out of the ring: %v", got)
			}
			n, err := returns(t, m, waiters, interrupts+1)
			want, behind := len(stay), []int(nil)
			switch {
			case tell == "notify 0" && len(stay) == 0:
				want = -1
			case tell == "notify 0":
				want, behind = stay[0], []int{0, 1, 2, 3}[stay[0]+1:]
			}
			if got := threads(m.Ring(0)); n != want || err != api.OK || !slices.Equal(got, behind) {
				t.Errorf("%s, as %v stay, told %d, %d; the ring is %v", tell, stay, n, err, got)
			}
			exhaust(m, waiters)
			if wrong := unsound(m); wrong != "" {
				t.Error(wrong)
			}
		}
	}
}
