package core_test

import (
	"testing"

	"futtock/api"
)

// In these rows a line is a pick of a thread, and what came of it, as in TestAlone...:
// of a thread that looks at something nothing is to be seen.

// P21.2, P21.3: what is Thin of another one is inflated cell by cell; that one owns
// it still. Two who wait to enter are drained, the last one first, and handed the
// monitor one by one, in the order of the queue; the last owner releases it.
func TestMeetQueue(t *testing.T) {
	follows(t, made(t, least(3), "enter 0; exit 0", "enter 0; exit 0", "enter 0; exit 0"), `
		0: t0 call 0 enter 0
		0:
		0: saved0.0 neutral #0
		0: t0 commit enter 0 0 ok; h0 thin t0 r0; records0.0 1
		0: t0 return 0 0 ok
		1: t1 call 0 enter 0
		1:
		1:
		1: h0 0
		1:
		1: disp0 neutral #0
		1: lock0 t0/-
		1: h0 fat 0.0; pairs [{0 0 1}]; used [0]; left 0
		1:
		1:
		1:
		1: lock0 t0/t1
		1:
		1: asleep1 true
		1: no
		0: t0 call 1 exit 0
		2: t2 call 0 enter 0
		2:
		2:
		2: next2 2
		2: lock0 t0/t2
		2:
		2: asleep2 true
		d: rounds 1
		0:
		0:
		0: lock0 t0/-
		0:
		0: entry0 [1 2]
		0:
		0: t0 commit exit 0 0 ok; t1 commit enter 0 0 ok; lock0 t1/-; records0.0 0; records1.0 1; asleep1 false; entry0 [2]
		0: t0 return 1 0 ok; ended0 true
		1:
		1: t1 return 0 0 ok
		1: t1 call 1 exit 0
		d: rounds 2
		1:
		1:
		1: t1 commit exit 0 0 ok; t2 commit enter 0 0 ok; lock0 t2/-; records1.0 0; records2.0 1; asleep2 false; entry0 []
		1: t1 return 1 0 ok; ended1 true
		d: rounds 3
		2:
		2: t2 return 0 0 ok
		2: t2 call 1 exit 0
		2:
		2:
		2: t2 commit exit 0 0 ok; lock0 -/-; records2.0 0
		2: t2 return 1 0 ok; ended2 true
		d: h0 neutral #0; pairs []; used []; left 1; rounds 4
	`)
}

// P21.2: who meets a header that is 0 looks again: one that enters, one that tries,
// one that hashes, the owner that owns it once more, exits, and tells.
func TestMeetZero(t *testing.T) {
	c := with(least(4), func(c *api.Config) { c.Slots = 2 })
	m := made(t, c, "enter 0; enter 0; notify 0; exit 0", "hash 0", "try 0", "enter 0")
	follows(t, m, `
		0: t0 call 0 enter 0
		0:
		0: saved0.0 neutral #0
		0: t0 commit enter 0 0 ok; h0 thin t0 r0; records0.0 1
		0: t0 return 0 0 ok
		0: t0 call 1 enter 0
		1: t1 call 0 hash 0
		1:
		1:
		1: h0 0
		0:
		2: t2 call 0 try 0
		2:
		3: t3 call 0 enter 0
		3:
		1:
		0:
		2:
		1: disp0 neutral #0
		3:
		1: lock0 t0/-
		0:
		2:
		3:
		1: h0 fat 0.0; pairs [{0 0 1}]; used [0]; left 1
		0:
		0: t0 commit enter 0 0 ok; records0.0 2
		2:
		2: t2 commit try 0 0 busy
		1:
		3:
		3:
		1:
		1: t1 commit hash 0 1018463418 ok; disp0 neutral #1018463418
		0: t0 return 1 0 ok
		0: t0 call 2 notify 0
		0:
		0: t0 commit notify 0 -1 ok
		0: t0 return 2 -1 ok
		0: t0 call 3 exit 0
		0: t0 commit exit 0 0 ok; records0.0 1
	`)
}

// P21.2: as long as a header is 0 nobody goes on by it, however often it is picked.
func TestMeetZeroForLong(t *testing.T) {
	for _, prog := range []string{"enter 0", "try 0", "exit 0", "wait 0", "notify 0", "all 0", "hash 0"} {
		m := made(t, least(3), "enter 0; "+prog, "hash 0", prog)
		calls(t, m, 0, 1)
		until(t, m, 1, func() bool { return m.Header(0) == 0 })
		exhaust(m, 0)
		exhaust(m, 2)
		switch prog {
		case "enter 0", "try 0", "hash 0":
			if m.Ended(2) {
				t.Errorf("%s: the other one went on by a header that is 0", prog)
			}
		default:
			if e, _ := returned(m, 2, 0); !m.Ended(2) || e.Err != api.ErrState {
				t.Errorf("%s: who does not own it is told %d, and ended: %v", prog, e.Err, m.Ended(2))
			}
		}
		if _, ok := returned(m, 0, 1); ok || m.Header(0) != 0 || m.Records(0, 0) != 1 {
			t.Errorf("%s: the owner went on by a header that is 0", prog)
		}
		exhaust(m, 1)
		exhaust(m, 0)
		if _, ok := returned(m, 0, 1); ok == (prog == "wait 0") || !m.Ended(1) {
			t.Errorf("%s: behind the inflation the owner returned: %v", prog, ok)
		}
		if wrong := unsound(m); wrong != "" {
			t.Error(wrong)
		}
	}
}

// P21.2: an owner that leaves a Thin one by putting back what it saved fails, if the
// header is another one by then: it leaves the Fat one.
func TestMeetInflatedAsOneLeaves(t *testing.T) {
	follows(t, made(t, least(2), "enter 0; exit 0", "hash 0"), `
		0: t0 call 0 enter 0
		0:
		0: saved0.0 neutral #0
		0: t0 commit enter 0 0 ok; h0 thin t0 r0; records0.0 1
		0: t0 return 0 0 ok
		0: t0 call 1 exit 0
		0:
		0:
		1: t1 call 0 hash 0
		1:
		1:
		1: h0 0
		0:
		0:
		0:
		1:
		1: disp0 neutral #0
		1: lock0 t0/-
		0:
		1: h0 fat 0.0; pairs [{0 0 1}]; used [0]; left 0
		0:
		0:
		0: t0 commit exit 0 0 ok; lock0 -/-; records0.0 0
		0: t0 return 1 0 ok; ended0 true
	`)
}

// P21.2: an inflation that meets another header on its way frees its slot, which is of
// another generation then, and begins anew; of two who inflate one header one does.
func TestMeetInflationsFail(t *testing.T) {
	c := with(least(3), func(c *api.Config) { c.Slots = 2 })
	follows(t, made(t, c, "enter 0; exit 0; enter 0", "enter 0; exit 0", "hash 0"), `
		0: t0 call 0 enter 0
		0:
		0: saved0.0 neutral #0
		0: t0 commit enter 0 0 ok; h0 thin t0 r0; records0.0 1
		0: t0 return 0 0 ok
		1: t1 call 0 enter 0
		1:
		1:
		0: t0 call 1 exit 0
		0:
		0:
		0: t0 commit exit 0 0 ok; h0 neutral #0; records0.0 0
		0: t0 return 1 0 ok
		1:
		1:
		1: saved1.0 neutral #0
		1: t1 commit enter 0 0 ok; h0 thin t1 r0; records1.0 1
		1: t1 return 0 0 ok
		0: t0 call 2 enter 0
		0:
		0:
		2: t2 call 0 hash 0
		2:
		2:
		2: h0 0
		0:
		0:
		2:
		2: disp1 neutral #0
		2: lock1 t1/-
		2: h0 fat 1.0; pairs [{1 0 2}]; used [1]; left 1
		0:
		0:
		0:
		0: lock1 t1/t0
		1: t1 call 1 exit 0
		1:
		1:
		1: lock1 t1/-
		1: entry1 [0]
		1:
		1: t1 commit exit 0 0 ok; t0 commit enter 0 0 ok; lock1 t0/-; records0.0 1; records1.0 0; entry1 []
		0:
		0: t0 return 2 0 ok; ended0 true
	`)
}

// P21.2: an inflation that finds no slot looks once more: where the header is Thin
// still, it is ErrOut, and the header as it was; where it is another one, all begins
// anew.
func TestMeetNoSlot(t *testing.T) {
	c := with(least(3), func(c *api.Config) { c.Objects = 2 })
	follows(t, made(t, c, "enter 0; hash 0; exit 0", "enter 1; hash 1; wait 1; notify 1; exit 1", "enter 1; exit 1; enter 1; exit 1; hash 1"), `
		0: t0 call 0 enter 0
		0:
		0: saved0.0 neutral #0
		0: t0 commit enter 0 0 ok; h0 thin t0 r0; records0.0 1
		0: t0 return 0 0 ok
		0: t0 call 1 hash 0
		0:
		0:
		0: h0 0
		1: t1 call 0 enter 1
		1:
		1: saved1.1 neutral #0
		1: t1 commit enter 1 0 ok; h1 thin t1 r1; records1.1 1
		1: t1 return 0 0 ok
		2: t2 call 0 enter 1
		2:
		2:
		2: t2 commit enter 1 0 out
		2: t2 return 0 0 out
		2: t2 call 1 exit 1
		2: t2 commit exit 1 0 state
		2: t2 return 1 0 state
		1: t1 call 1 hash 1
		1:
		1:
		1: t1 commit hash 1 0 out
		1: t1 return 1 0 out
		1: t1 call 2 wait 1
		1:
		1:
		1: t1 commit begin 1 0 out
		1: t1 return 2 0 out
		2: t2 call 2 enter 1
		2:
		2:
		1: t1 call 3 notify 1
		1: t1 commit notify 1 -1 ok
		1: t1 return 3 -1 ok
		1: t1 call 4 exit 1
		1:
		1:
		1: t1 commit exit 1 0 ok; h1 neutral #0; records1.1 0
		1: t1 return 4 0 ok; ended1 true
		2:
		2:
		2: saved2.1 neutral #0
		2: t2 commit enter 1 0 ok; h1 thin t2 r1; records2.1 1
		2: t2 return 2 0 ok
		0:
		0: disp0 neutral #0
		0: lock0 t0/-
		0: h0 fat 0.0; pairs [{0 0 0}]; used [0]; left 0
		0:
		0:
		0: t0 commit hash 0 1018463418 ok; disp0 neutral #1018463418
		0: t0 return 1 1018463418 ok
		0: t0 call 2 exit 0
		0:
		0:
		0: t0 commit exit 0 0 ok; lock0 -/-; records0.0 0
		2: t2 call 3 exit 1
		0: t0 return 2 0 ok; ended0 true
		d: h0 neutral #1018463418; pairs []; used []; left 1; rounds 1
	`)
}

// P21.2: of another thread a Try is ErrBusy, by a Thin header and by a Fat one; who
// enters a Fat one looks again Spin times, then puts itself as the head and sleeps.
func TestMeetBusy(t *testing.T) {
	c := with(least(3), func(c *api.Config) { c.Spin = 2 })
	follows(t, made(t, c, "enter 0; exit 0", "enter 0; exit 0", "try 0; try 0; try 0"), `
		0: t0 call 0 enter 0
		0:
		0: saved0.0 neutral #0
		0: t0 commit enter 0 0 ok; h0 thin t0 r0; records0.0 1
		0: t0 return 0 0 ok
		2: t2 call 0 try 0
		2: t2 commit try 0 0 busy
		2: t2 return 0 0 busy
		1: t1 call 0 enter 0
		1:
		1:
		1: h0 0
		1:
		1: disp0 neutral #0
		1: lock0 t0/-
		1: h0 fat 0.0; pairs [{0 0 1}]; used [0]; left 0
		1:
		1:
		1:
		1:
		1:
		1: lock0 t0/t1
		1:
		1: asleep1 true
		2: t2 call 1 try 0
		2:
		2: t2 commit try 0 0 busy
		2: t2 return 1 0 busy
		0: t0 call 1 exit 0
		0:
		0:
		0: lock0 t0/-
		0: entry0 [1]
		0:
		0: t0 commit exit 0 0 ok; t1 commit enter 0 0 ok; lock0 t1/-; records0.0 0; records1.0 1; asleep1 false; entry0 []
		1:
		1: t1 return 0 0 ok
		1: t1 call 1 exit 0
		1:
		1:
		1: t1 commit exit 0 0 ok; lock0 -/-; records1.0 0
		2: t2 call 2 try 0
		2:
		2:
		2: t2 commit try 0 0 ok; lock0 t2/-; records2.0 1
		2: t2 return 2 0 ok; ended2 true
	`)
}

// P21.2: the bias of another one that owns it is revoked as soon as all stand: who
// asked goes on no sooner, nor does anyone who stands; the owner's header is Thin.
func TestMeetRevokeOwned(t *testing.T) {
	c := with(least(3), func(c *api.Config) { c.Objects, c.Bias = 2, 1 })
	follows(t, made(t, c, "enter 0; exit 0", "enter 0", "enter 1; exit 1"), `
		0: t0 call 0 enter 0
		0:
		0:
		0: t0 commit enter 0 0 ok; h0 biased e0 t0; records0.0 1
		0: t0 return 0 0 ok
		2: t2 call 0 enter 1
		2:
		1: t1 call 0 enter 0
		1:
		1: wanted true
		1: no
		0: no
		2:
		1: no
		0: no
		2: t2 commit enter 1 0 ok; h1 biased e0 t2; records2.1 1
		2: t2 return 0 0 ok; h0 thin t0 r0; saved0.0 neutral #0; class0 true e0 1; wanted false; rounds 1
		2: t2 call 1 exit 1
		1:
		0: t0 call 1 exit 0
		0:
		0:
		0: t0 commit exit 0 0 ok; h0 neutral #0; records0.0 0
		0: t0 return 1 0 ok; ended0 true
		2: t2 commit exit 1 0 ok; records2.1 0
	`)
}

// P21.2: the bias of another one that owns it no more, or ended, is revoked to
// Neutral; that of nobody, and one of another epoch, is the next one's by a CAS.
func TestMeetRevokeFree(t *testing.T) {
	c := with(least(2), func(c *api.Config) { c.Objects, c.Bias, c.Rebias = 3, 1, 1 })
	follows(t, made(t, c, "enter 0; exit 0; enter 1; enter 2; exit 2", "enter 0; try 2; hash 1"), `
		0: t0 call 0 enter 0
		0:
		0:
		0: t0 commit enter 0 0 ok; h0 biased e0 t0; records0.0 1
		0: t0 return 0 0 ok
		0: t0 call 1 exit 0
		0: t0 commit exit 0 0 ok; records0.0 0
		0: t0 return 1 0 ok
		0: t0 call 2 enter 1
		0:
		0:
		0: t0 commit enter 1 0 ok; h1 biased e0 t0; records0.1 1
		0: t0 return 2 0 ok
		0: t0 call 3 enter 2
		0:
		0:
		0: t0 commit enter 2 0 ok; h2 biased e0 t0; records0.2 1
		0: t0 return 3 0 ok
		0: t0 call 4 exit 2
		0: t0 commit exit 2 0 ok; records0.2 0
		0: t0 return 4 0 ok; ended0 true
		1: t1 call 0 enter 0
		1:
		1: wanted true
		1: h0 neutral #0; h1 biased e1 t0; p0 biased e1; class0 true e1 1; wanted false; rounds 1
		1: saved1.0 neutral #0
		1: t1 commit enter 0 0 ok; h0 thin t1 r0; records1.0 1
		1: t1 return 0 0 ok
		1: t1 call 1 try 2
		1:
		1:
		1: t1 commit try 2 0 ok; h2 biased e1 t1; records1.2 1
		1: t1 return 1 0 ok
		1: t1 call 2 hash 1
		1: wanted true
		1: h1 thin t0 r1; h2 biased e2 t1; p0 biased e2; saved0.1 neutral #0; class0 true e2 2; wanted false; rounds 2
		1:
		1: h1 0
		1:
		1: disp0 neutral #0
		1: lock0 t0/-
		1: h1 fat 0.0; pairs [{0 1 1}]; used [0]; left 0
		1:
		1:
		1: t1 commit hash 1 1018463418 ok; disp0 neutral #1018463418
		1: t1 return 2 1018463418 ok; ended1 true
	`)
}

// P21.2: at Revoke a class's objects are biased no more, all of them, those that are
// owned and those that are not; objects of another class stay.
func TestMeetRevokeClass(t *testing.T) {
	c := with(least(2), func(c *api.Config) { c.Objects, c.Classes, c.Bias, c.Rebias, c.Revoke = 5, 2, 3, 2, 2 })
	m := made(t, c, "enter 0; enter 2; exit 2; enter 1; hash 4", "hash 2; enter 0; hash 4")
	returns(t, m, 0, 3)
	calls(t, m, 1, 0)
	follows(t, m, `
		1: wanted true
		1: h2 neutral #0; class0 true e0 1; wanted false; rounds 1
		1: t1 commit hash 2 1018463418 ok; h2 neutral #1018463418
		1: t1 return 0 1018463418 ok
		1: t1 call 1 enter 0
		1:
		1: wanted true
		0: t0 call 4 hash 4; h0 thin t0 r0; h4 neutral #0; p0 neutral #0; saved0.0 neutral #0; class0 false e0 2; wanted false; rounds 2
		0:
		0: t0 commit hash 4 354007467 ok; h4 neutral #354007467
		0: t0 return 4 354007467 ok; ended0 true
	`)
}
