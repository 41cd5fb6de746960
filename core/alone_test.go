package core_test

import (
	"testing"

	"futtock/api"
)

// In these rows a line is a pick of a thread, and what came of it: what was noted,
// and what is told otherwise than ahead of it. Behind a look nothing is.

// P21.2, P21.3: one thread enters what is Neutral, and leaves it.
func TestAloneNeutral(t *testing.T) {
	follows(t, made(t, least(1), "enter 0; exit 0"), `
		0: t0 call 0 enter 0
		0:
		0: saved0.0 neutral #0
		0: t0 commit enter 0 0 ok; h0 thin t0 r0; records0.0 1
		0: t0 return 0 0 ok
		0: t0 call 1 exit 0
		0:
		0:
		0: t0 commit exit 0 0 ok; h0 neutral #0; records0.0 0
		0: t0 return 1 0 ok; ended0 true
		0: no
	`)
}

// P21.2, P21.3: one thread enters what is Biased of nobody, then of itself: by a look
// at the header and one at the prototype; and leaves it by a look at the header: the
// memory is as it was.
func TestAloneBiased(t *testing.T) {
	c := with(least(1), func(c *api.Config) { c.Bias = 1 })
	follows(t, made(t, c, "enter 0; exit 0; enter 0; enter 0; try 0; exit 0; exit 0; exit 0"), `
		0: t0 call 0 enter 0
		0:
		0:
		0: t0 commit enter 0 0 ok; h0 biased e0 t0; records0.0 1
		0: t0 return 0 0 ok
		0: t0 call 1 exit 0
		0: t0 commit exit 0 0 ok; records0.0 0
		0: t0 return 1 0 ok
		0: t0 call 2 enter 0
		0:
		0: t0 commit enter 0 0 ok; records0.0 1
		0: t0 return 2 0 ok
		0: t0 call 3 enter 0
		0:
		0: t0 commit enter 0 0 ok; records0.0 2
		0: t0 return 3 0 ok
		0: t0 call 4 try 0
		0:
		0: t0 commit try 0 0 over
		0: t0 return 4 0 over
		0: t0 call 5 exit 0
		0: t0 commit exit 0 0 ok; records0.0 1
		0: t0 return 5 0 ok
		0: t0 call 6 exit 0
		0: t0 commit exit 0 0 ok; records0.0 0
		0: t0 return 6 0 ok
		0: t0 call 7 exit 0
		0: t0 commit exit 0 0 state
		0: t0 return 7 0 state; ended0 true
	`)
}

// P21.2, P21.3: one thread owns what is Thin as often as may be, by tries too, and
// leaves it as often, and once more.
func TestAloneThin(t *testing.T) {
	follows(t, made(t, least(1), "try 0; holds 0; enter 0; enter 0; try 0; exit 0; holds 0; exit 0; exit 0; holds 0"), `
		0: t0 call 0 try 0
		0:
		0: saved0.0 neutral #0
		0: t0 commit try 0 0 ok; h0 thin t0 r0; records0.0 1
		0: t0 return 0 0 ok
		0: t0 call 1 holds 0
		0: t0 commit holds 0 1 ok
		0: t0 return 1 1 ok
		0: t0 call 2 enter 0
		0: t0 commit enter 0 0 ok; records0.0 2
		0: t0 return 2 0 ok
		0: t0 call 3 enter 0
		0: t0 commit enter 0 0 over
		0: t0 return 3 0 over
		0: t0 call 4 try 0
		0: t0 commit try 0 0 over
		0: t0 return 4 0 over
		0: t0 call 5 exit 0
		0: t0 commit exit 0 0 ok; records0.0 1
		0: t0 return 5 0 ok
		0: t0 call 6 holds 0
		0: t0 commit holds 0 1 ok
		0: t0 return 6 1 ok
		0: t0 call 7 exit 0
		0:
		0:
		0: t0 commit exit 0 0 ok; h0 neutral #0; records0.0 0
		0: t0 return 7 0 ok
		0: t0 call 8 exit 0
		0: t0 commit exit 0 0 state
		0: t0 return 8 0 state
		0: t0 call 9 holds 0
		0: t0 commit holds 0 0 ok
		0: t0 return 9 0 ok; ended0 true
	`)
}

// P21.2, P21.3: one thread has a hash put in a Neutral header, which is saved, put
// back, displaced as the header is inflated, and restored as it is deflated; it stays
// the same. The first ones of the seed 0 are 1018463418 and 354007467.
func TestAloneHash(t *testing.T) {
	m := made(t, with(least(1), func(c *api.Config) { c.Objects = 2 }), "hash 0; enter 0; hash 0; enter 0; exit 0; exit 0; hash 0; hash 1")
	follows(t, m, `
		0: t0 call 0 hash 0
		0:
		0: t0 commit hash 0 1018463418 ok; h0 neutral #1018463418
		0: t0 return 0 1018463418 ok
		0: t0 call 1 enter 0
		0:
		0: saved0.0 neutral #1018463418
		0: t0 commit enter 0 0 ok; h0 thin t0 r0; records0.0 1
		0: t0 return 1 0 ok
		0: t0 call 2 hash 0
		0:
		0:
		0: h0 0
		0:
		0: disp0 neutral #1018463418
		0: lock0 t0/-
		0: h0 fat 0.0; pairs [{0 0 0}]; used [0]; left 0
		0:
		0: t0 commit hash 0 1018463418 ok
		0: t0 return 2 1018463418 ok
		0: t0 call 3 enter 0
		0:
		0: t0 commit enter 0 0 ok; records0.0 2
		0: t0 return 3 0 ok
		d: rounds 1
		0: t0 call 4 exit 0
		0: t0 commit exit 0 0 ok; records0.0 1
		0: t0 return 4 0 ok
		0: t0 call 5 exit 0
		0:
		0:
		0: t0 commit exit 0 0 ok; lock0 -/-; records0.0 0
		0: t0 return 5 0 ok
		d: h0 neutral #1018463418; pairs []; used []; left 1; rounds 2
		0: t0 call 6 hash 0
		0: t0 commit hash 0 1018463418 ok
		0: t0 return 6 1018463418 ok
		0: t0 call 7 hash 1
		0:
		0: t0 commit hash 1 354007467 ok; h1 neutral #354007467
		0: t0 return 7 354007467 ok; ended0 true
	`)
}

// P21.2, P21.3: the hash of what one owns thinly, and which has none yet, is put in
// what the slot displaced.
func TestAloneHashOfOwn(t *testing.T) {
	follows(t, made(t, least(1), "enter 0; hash 0; notify 0; all 0; exit 0; try 0; try 0; try 0"), `
		0: t0 call 0 enter 0
		0:
		0: saved0.0 neutral #0
		0: t0 commit enter 0 0 ok; h0 thin t0 r0; records0.0 1
		0: t0 return 0 0 ok
		0: t0 call 1 hash 0
		0:
		0:
		0: h0 0
		0:
		0: disp0 neutral #0
		0: lock0 t0/-
		0: h0 fat 0.0; pairs [{0 0 0}]; used [0]; left 0
		0:
		0:
		0: t0 commit hash 0 1018463418 ok; disp0 neutral #1018463418
		0: t0 return 1 1018463418 ok
		0: t0 call 2 notify 0
		0:
		0: t0 commit notify 0 -1 ok
		0: t0 return 2 -1 ok
		0: t0 call 3 all 0
		0:
		0: t0 commit all 0 0 ok
		0: t0 return 3 0 ok
		0: t0 call 4 exit 0
		0:
		0:
		0: t0 commit exit 0 0 ok; lock0 -/-; records0.0 0
		0: t0 return 4 0 ok
		0: t0 call 5 try 0
		0:
		0:
		0: t0 commit try 0 0 ok; lock0 t0/-; records0.0 1
		0: t0 return 5 0 ok
		0: t0 call 6 try 0
		0:
		0: t0 commit try 0 0 ok; records0.0 2
		0: t0 return 6 0 ok
		0: t0 call 7 try 0
		0:
		0: t0 commit try 0 0 over
		0: t0 return 7 0 over; ended0 true
		d: rounds 1
	`)
}

// P21.2, P21.3: Hash and Wait of what is Biased, of nobody and of oneself, ask for a
// revocation, which is done ahead of the next step.
func TestAloneRevokes(t *testing.T) {
	c := with(least(1), func(c *api.Config) { c.Objects, c.Bias = 2, 1 })
	follows(t, made(t, c, "hash 0; enter 1; wait 1 2"), `
		0: t0 call 0 hash 0
		0: wanted true
		0: h0 neutral #0; class0 true e0 1; wanted false; rounds 1
		0: t0 commit hash 0 1018463418 ok; h0 neutral #1018463418
		0: t0 return 0 1018463418 ok
		0: t0 call 1 enter 1
		0:
		0:
		0: t0 commit enter 1 0 ok; h1 biased e0 t0; records0.1 1
		0: t0 return 1 0 ok
		0: t0 call 2 wait 1 2
		0: wanted true
		0: h1 thin t0 r1; saved0.1 neutral #0; class0 true e0 2; wanted false; rounds 2
		0:
		0: h1 0
		0:
		0: disp0 neutral #0
		0: lock0 t0/-
		0: h1 fat 0.0; pairs [{0 1 0}]; used [0]; left 0
		0:
		0: state0 1; ring0 [{0 1}]
		0:
		0: t0 commit begin 1 0 ok; lock0 -/-; records0.1 0
		0:
		0: asleep0 true
	`)
}

// P21.2, P21.3: one thread waits, and is late: by its alarm, not ahead of it. It has
// its count again. Nobody deflates what it waits at; behind its exit one does.
func TestAloneLate(t *testing.T) {
	follows(t, made(t, least(1), "enter 0; enter 0; wait 0 3; exit 0; exit 0"), `
		0: t0 call 0 enter 0
		0:
		0: saved0.0 neutral #0
		0: t0 commit enter 0 0 ok; h0 thin t0 r0; records0.0 1
		0: t0 return 0 0 ok
		0: t0 call 1 enter 0
		0: t0 commit enter 0 0 ok; records0.0 2
		0: t0 return 1 0 ok
		+7: now 7
		0: t0 call 2 wait 0 3
		0:
		0:
		0: h0 0
		0:
		0: disp0 neutral #0
		0: lock0 t0/-
		0: h0 fat 0.0; pairs [{0 0 0}]; used [0]; left 0
		0:
		0: state0 1; ring0 [{0 2}]
		0:
		0: t0 commit begin 0 0 ok; lock0 -/-; records0.0 0
		0:
		0: asleep0 true
		d: rounds 1
		+2: now 9
		0: no
		+0:
		+-5:
		+1: asleep0 false; now 10
		d: rounds 2
		0:
		0: t0 commit leave 0 0 time; state0 3
		d: rounds 3
		0:
		0:
		0: t0 commit end 0 0 time; lock0 t0/-; records0.0 2; ring0 []
		0: state0 0
		0: t0 return 2 0 time
		0: t0 call 3 exit 0
		0: t0 commit exit 0 0 ok; records0.0 1
		0: t0 return 3 0 ok
		0: t0 call 4 exit 0
		0:
		0:
		0: t0 commit exit 0 0 ok; lock0 -/-; records0.0 0
		0: t0 return 4 0 ok; ended0 true
		d: h0 neutral #0; pairs []; used []; left 1; rounds 4
	`)
}

// P21.2, P21.3: with the flag a Wait is ErrIntr at once, and takes it, by whatever
// header; what one does not own is ErrState, and the flag stays.
func TestAloneInterrupted(t *testing.T) {
	const rest = `
		0: t0 return 0 0 ok
		0: t0 call 1 interrupt 0
		0: t0 commit interrupt 0 0 ok; flag0 true
		0: t0 return 1 0 ok
		0: t0 call 2 interrupt 0
		0: t0 commit interrupt 0 0 ok
		0: t0 return 2 0 ok
		0: t0 call 3 wait 0 7
		0: t0 commit begin 0 0 intr; flag0 false
		0: t0 return 3 0 intr
		0: t0 call 4 interrupt 0
		0: t0 commit interrupt 0 0 ok; flag0 true
		0: t0 return 4 0 ok
	`
	const prog = "enter 0; interrupt 0; interrupt 0; wait 0 7; interrupt 0; exit 0; wait 0; notify 0; all 0; exit 0"
	const wrong = `
		0: t0 return 5 0 ok
		0: t0 call 6 wait 0
		0: t0 commit begin 0 0 state
		0: t0 return 6 0 state
		0: t0 call 7 notify 0
		0: t0 commit notify 0 -1 state
		0: t0 return 7 -1 state
		0: t0 call 8 all 0
		0: t0 commit all 0 0 state
		0: t0 return 8 0 state
		0: t0 call 9 exit 0
		0: t0 commit exit 0 0 state
		0: t0 return 9 0 state; ended0 true
	`
	follows(t, made(t, least(1), prog), `
		0: t0 call 0 enter 0
		0:
		0: saved0.0 neutral #0
		0: t0 commit enter 0 0 ok; h0 thin t0 r0; records0.0 1`+rest+`
		0: t0 call 5 exit 0
		0:
		0:
		0: t0 commit exit 0 0 ok; h0 neutral #0; records0.0 0`+wrong)
	c := with(least(1), func(c *api.Config) { c.Bias = 1 })
	follows(t, made(t, c, prog), `
		0: t0 call 0 enter 0
		0:
		0:
		0: t0 commit enter 0 0 ok; h0 biased e0 t0; records0.0 1`+rest+`
		0: t0 call 5 exit 0
		0: t0 commit exit 0 0 ok; records0.0 0`+wrong)
}

// P21.2: notify and all of what one owns by a Biased or a Thin header wake nobody.
func TestAloneTellsNobody(t *testing.T) {
	for _, bias := range []uint8{0, 1} {
		m := made(t, with(least(1), func(c *api.Config) { c.Bias = bias }), "enter 0; notify 0; all 0")
		returns(t, m, 0, 0)
		follows(t, m, `
			0: t0 call 1 notify 0
			0: t0 commit notify 0 -1 ok
			0: t0 return 1 -1 ok
			0: t0 call 2 all 0
			0: t0 commit all 0 0 ok
			0: t0 return 2 0 ok; ended0 true
		`)
	}
}
