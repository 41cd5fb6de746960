package abst_test

import (
	"fmt"
	"strings"
	"testing"

	"futtock/abst"
	"futtock/api"
)

// In these rows are moves (see does), then an object's header, then its state behind
// them: the owner, how often that owns it, who waits, the hash.

// P22.1: Neutral: nobody, the header's hash.
func TestNeutral(t *testing.T) {
	follows(t, made(t, least(2), "hash 0; hash 0", "hash 0"), 0, `
		    | neutral | -1 x0 [] #0
		0>0 | neutral | -1 x0 [] #0
		1>0 | neutral | -1 x0 [] #0
		0   | neutral | -1 x0 [] #0
		0   | neutral | -1 x0 [] #5
		0!  | neutral | -1 x0 [] #5
		1!  | neutral | -1 x0 [] #5
		d   | neutral | -1 x0 [] #5
	`)
}

// P22.1: the least hash, and the greatest one, in whatever word it stands.
func TestHashes(t *testing.T) {
	for seed, hash := range map[uint64]int{seedOf1: 1, seedOfMost: mostHash} {
		c := with(least(2), func(c *api.Config) { c.Seed = seed })
		follows(t, made(t, c, "hash 0; enter 0; exit 0; hash 0", "enter 0; exit 0"), 0, fmt.Sprintf(`
			0<0 | neutral  | -1 x0 [] #%[1]d
			0<1 | thin t0  | 0 x1 [] #%[1]d
			1*4 | 0        | 0 x1 [] #%[1]d
			1*4 | fat 0 [] | 0 x1 [] #%[1]d
			0<2 | fat 0 [] | -1 x0 [] #%[1]d
			1!  | fat 0 [] | -1 x0 [] #%[1]d
			d   | neutral  | -1 x0 [] #%[1]d
			0!  | neutral  | -1 x0 [] #%[1]d
		`, hash))
	}
}

// P22.1: Thin: its owner, as often as it has records, and no hash, where what it saved
// has none.
func TestThin(t *testing.T) {
	follows(t, made(t, least(1), "enter 0; enter 0; try 0; try 0; exit 0; exit 0; exit 0; exit 0"), 0, `
		0*3 | neutral | -1 x0 [] #0
		0   | thin t0 | 0 x1 [] #0
		0<1 | thin t0 | 0 x2 [] #0
		0<2 | thin t0 | 0 x3 [] #0
		0<3 | thin t0 | 0 x3 [] #0
		0<4 | thin t0 | 0 x2 [] #0
		0<5 | thin t0 | 0 x1 [] #0
		0*3 | thin t0 | 0 x1 [] #0
		0   | neutral | -1 x0 [] #0
		0!  | neutral | -1 x0 [] #0
	`)
}

// P22.1: Thin: the hash of the word that its owner saved, not that of another one.
func TestThinWithHash(t *testing.T) {
	follows(t, made(t, least(2), "enter 0; exit 0; enter 0; exit 0", "hash 0; enter 0; enter 0; exit 0; exit 0"), 0, `
		0<0 | thin t0 | 0 x1 [] #0
		0<1 | neutral | -1 x0 [] #0
		1<0 | neutral | -1 x0 [] #5
		1<1 | thin t1 | 1 x1 [] #5
		1<2 | thin t1 | 1 x2 [] #5
		1<3 | thin t1 | 1 x1 [] #5
		1<4 | neutral | -1 x0 [] #5
		0<2 | thin t0 | 0 x1 [] #5
		0<3 | neutral | -1 x0 [] #5
	`)
}

// P22.1: the document's example, with its words.
func TestThinOfTheOwner1(t *testing.T) {
	m := made(t, least(1), "hash 0; enter 0")
	does(t, m, "0<1")
	if m.Header(0) != 1<<24 || m.Word(savedCell) != 5<<8+1 {
		t.Fatalf("the words are %#x, %#x", m.Header(0), m.Word(savedCell))
	}
	if s, ok := abst.Of(m, 0); s.Owner != 0 || s.Count != 1 || len(s.Waiters) != 0 || s.Hash != 5 || !ok {
		t.Errorf("Of is %+v, %v", s, ok)
	}
}

// P22.1: Biased: nobody, of nobody, and of a thread that has no record of it, or has
// none any more; else that thread. It has no hash.
func TestBiased(t *testing.T) {
	follows(t, made(t, biased(least(2)), "enter 0; enter 0; exit 0; exit 0; enter 0", "try 0"), 0, `
		    | biased e0    | -1 x0 [] #0
		0*3 | biased e0    | -1 x0 [] #0
		0   | biased e0 t0 | 0 x1 [] #0
		0<1 | biased e0 t0 | 0 x2 [] #0
		0<2 | biased e0 t0 | 0 x1 [] #0
		0>3 | biased e0 t0 | 0 x1 [] #0
		0   | biased e0 t0 | -1 x0 [] #0
		0<4 | biased e0 t0 | 0 x1 [] #0
		1*3 | biased e0 t0 | 0 x1 [] #0
		?   | thin t0      | 0 x1 [] #0
		1!  | thin t0      | 0 x1 [] #0
	`)
}

// P22.1: so of one whose owner does not own it, as its bias is revoked.
func TestBiasedOfOneWithoutRecords(t *testing.T) {
	follows(t, made(t, biased(least(2)), "enter 0; exit 0", "hash 0"), 0, `
		0!  | biased e0 t0 | -1 x0 [] #0
		1*2 | biased e0 t0 | -1 x0 [] #0
		?   | neutral      | -1 x0 [] #0
		1*2 | neutral      | -1 x0 [] #5
	`)
}

// P22.1: Biased of an epoch that is its class's no longer: nobody; who owned it as the
// epoch began owns it in that one.
func TestBiasedOfAnotherEpoch(t *testing.T) {
	c := biased(with(least(3), func(c *api.Config) { c.Objects, c.Rebias = 3, 1 }))
	m := made(t, c, "enter 0; exit 0; enter 0", "enter 1; enter 1", "hash 2")
	does(t, m, "0<1 1! 2!")
	if m.Word(protoCell) != 0x105 {
		t.Fatalf("the prototype is %#x", m.Word(protoCell))
	}
	shows(t, m, 0, "biased e0 t0", "-1 x0 [] #0")
	shows(t, m, 1, "biased e1 t1", "1 x2 [] #0")
	shows(t, m, 2, "neutral", "-1 x0 [] #5")
	follows(t, m, 0, `
		0>2 | biased e0 t0 | -1 x0 [] #0
		0*2 | biased e0 t0 | -1 x0 [] #0
		0   | biased e1 t0 | 0 x1 [] #0
	`)
}

// P22.1: so of one of nobody, and of an epoch that is no more.
func TestBiasedOfNobodyOfAnotherEpoch(t *testing.T) {
	c := biased(with(least(2), func(c *api.Config) { c.Objects, c.Rebias = 2, 1 }))
	follows(t, made(t, c, "hash 1", "enter 0"), 0, `
		    | biased e0    | -1 x0 [] #0
		0!  | biased e0    | -1 x0 [] #0
		1*3 | biased e0    | -1 x0 [] #0
		1   | biased e1 t1 | 1 x1 [] #0
	`)
}

// P22.1: 0: at each step of an inflation who has the records owns it, once and several
// times; with the hash that it saved, and without, whatever the other one saved.
func TestInflating(t *testing.T) {
	for count := 1; count <= 3; count++ {
		for _, hash := range []int{0, 5} {
			first := "holds 0"
			if hash > 0 {
				first = "hash 0"
			}
			m := made(t, least(2), "enter 0; exit 0; "+first+strings.Repeat("; enter 0", count), "enter 0; exit 0; hash 0")
			state := fmt.Sprintf("| 0 x%d [] #%d", count, hash)
			rows := "0! 1>2 | thin t0 " + state + "\n" // it called, and is to look
			rows += "1*2 | thin t0 " + state + "\n"    // it looks, and takes a slot
			for range 4 {
				rows += "1 | 0 " + state + "\n" // 0, what was saved, what is displaced, the lock word
			}
			does(t, m, "0<0 0<1 1<0 1<1 0!")
			follows(t, m, 0, rows+"1 | fat 0 [] "+state)
		}
	}
}

// P22.1: so where it is the owner that inflates it, to wait or to hash.
func TestInflatingByItsOwner(t *testing.T) {
	follows(t, made(t, least(1), "enter 0; enter 0; wait 0"), 0, `
		0>2 | thin t0  | 0 x2 [] #0
		0*3 | 0        | 0 x2 [] #0
		0   | 0        | 0 x2 [] #0
		0   | 0        | 0 x2 [] #0
		0   | 0        | 0 x2 [] #0
		0   | fat 0 [] | 0 x2 [] #0
	`)
	follows(t, made(t, least(1), "hash 0; enter 0; hash 0"), 0, `
		0>2 | thin t0  | 0 x1 [] #5
		0*3 | 0        | 0 x1 [] #5
		0   | 0        | 0 x1 [] #5
		0   | 0        | 0 x1 [] #5
		0   | 0        | 0 x1 [] #5
		0   | fat 0 [] | 0 x1 [] #5
		0!  | fat 0 [] | 0 x1 [] #5
	`)
}

// P22.1: Fat: the lock word's owner, or nobody; the hash of what the slot displaced,
// that has none, then one.
func TestFat(t *testing.T) {
	follows(t, made(t, least(2), "enter 0; hash 0; enter 0; exit 0; exit 0", "enter 0; enter 0; exit 0; exit 0"), 0, `
		0>1 | thin t0  | 0 x1 [] #0
		0*7 | fat 0 [] | 0 x1 [] #0
		0*2 | fat 0 [] | 0 x1 [] #0
		0   | fat 0 [] | 0 x1 [] #5
		0<2 | fat 0 [] | 0 x2 [] #5
		0<3 | fat 0 [] | 0 x1 [] #5
		0*3 | fat 0 [] | 0 x1 [] #5
		0   | fat 0 [] | -1 x0 [] #5
		1>0 | fat 0 [] | -1 x0 [] #5
		1*2 | fat 0 [] | -1 x0 [] #5
		1   | fat 0 [] | 1 x1 [] #5
		1<1 | fat 0 [] | 1 x2 [] #5
		1!  | fat 0 [] | -1 x0 [] #5
	`)
}

// P22.1: Fat: one who is handed the monitor owns it from that step on, still asleep as
// it was or not there yet; those who wait to enter play no part, nor who is the head.
func TestFatThatIsHanded(t *testing.T) {
	follows(t, made(t, least(3), "enter 0; exit 0", "enter 0; exit 0", "enter 0; exit 0"), 0, `
		0<0 | thin t0  | 0 x1 [] #0
		2!  | fat 0 [] | 0 x1 [] #0
		1!  | fat 0 [] | 0 x1 [] #0
		0*2 | fat 0 [] | 0 x1 [] #0
		0*2 | fat 0 [] | 0 x1 [] #0
		0*3 | fat 0 [] | 0 x1 [] #0
		0   | fat 0 [] | 2 x1 [] #0
		0!  | fat 0 [] | 2 x1 [] #0
		2>1 | fat 0 [] | 2 x1 [] #0
		2*3 | fat 0 [] | 1 x1 [] #0
		1<0 | fat 0 [] | 1 x1 [] #0
		1!  | fat 0 [] | -1 x0 [] #0
		d   | neutral  | -1 x0 [] #0
	`)
}

// P22.1: Fat: one whose state is Waiting already, but who has its records still, owns
// it, and does not wait; it waits, as it leaves the monitor.
func TestFatAndOneWaits(t *testing.T) {
	m := made(t, least(2), "enter 0; hash 0; enter 0; wait 0", "enter 0; notify 0; exit 0")
	follows(t, m, 0, `
		0>3 | fat 0 []  | 0 x2 [] #5
		0   | fat 0 []  | 0 x2 [] #5
		0   | fat 0 [0] | 0 x2 [] #5
	`)
	if m.Word(stateCell) != 1 || m.Records(0, 0) != 2 {
		t.Fatalf("its state is %d", m.Word(stateCell))
	}
	follows(t, m, 0, `
		0   | fat 0 [0] | 0 x2 [] #5
		0   | fat 0 [0] | -1 x0 [0] #5
		0!  | fat 0 [0] | -1 x0 [0] #5
		1>0 | fat 0 [0] | -1 x0 [0] #5
		1<0 | fat 0 [0] | 1 x1 [0] #5
		1>1 | fat 0 [0] | 1 x1 [0] #5
		1   | fat 0 [0] | 1 x1 [0] #5
		1   | fat 0 []  | 1 x1 [] #5
		1>2 | fat 0 []  | 1 x1 [] #5
		1*3 | fat 0 []  | 0 x2 [] #5
		1!  | fat 0 []  | 0 x2 [] #5
		0!  | fat 0 []  | 0 x2 [] #5
	`)
}

// P22.1: so of one whose state is Waiting, and who hands the monitor on as it leaves.
func TestFatAndOneWaitsAndHandsItOn(t *testing.T) {
	follows(t, made(t, least(2), "enter 0; wait 0", "enter 0; wait 0"), 0, `
		0<0 | thin t0     | 0 x1 [] #0
		1!  | fat 0 []    | 0 x1 [] #0
		0>1 | fat 0 []    | 0 x1 [] #0
		0*5 | fat 0 [0]   | 0 x1 [] #0
		0*2 | fat 0 [0]   | 1 x1 [0] #0
		1<0 | fat 0 [0]   | 1 x1 [0] #0
		1>1 | fat 0 [0]   | 1 x1 [0] #0
		1*2 | fat 0 [0 1] | 1 x1 [0] #0
		1*2 | fat 0 [0 1] | -1 x0 [0 1] #0
	`)
}

// P22.1: Fat: those who wait are told rising, in whatever order they came.
func TestFatAndSeveralWait(t *testing.T) {
	const wait = "enter 0; enter 0; wait 0 9"
	follows(t, made(t, least(5), wait, wait, wait, wait, "enter 0; notify 0; notify 0; all 0"), 0, `
		2!  | fat 0 [2]       | -1 x0 [2] #0
		0!  | fat 0 [2 0]     | -1 x0 [0 2] #0
		3!  | fat 0 [2 0 3]   | -1 x0 [0 2 3] #0
		1!  | fat 0 [2 0 3 1] | -1 x0 [0 1 2 3] #0
		d   | fat 0 [2 0 3 1] | -1 x0 [0 1 2 3] #0
		4<0 | fat 0 [2 0 3 1] | 4 x1 [0 1 2 3] #0
		4<1 | fat 0 [0 3 1]   | 4 x1 [0 1 3] #0
		4<2 | fat 0 [3 1]     | 4 x1 [1 3] #0
		4>3 | fat 0 [3 1]     | 4 x1 [1 3] #0
		4*2 | fat 0 [1]       | 4 x1 [1] #0
		4   | fat 0 []        | 4 x1 [] #0
	`)
}

// P22.1: one that is late waits till it leaves by itself; it is in the ring still then,
// and waits no more, till it owns the object anew, or one who tells meets it there.
func TestFatAndOneIsLate(t *testing.T) {
	m := made(t, least(3), "enter 0; wait 0 1; exit 0", "enter 0; wait 0 2; exit 0", "enter 0; notify 0; exit 0")
	follows(t, m, 0, `
		1!  | fat 0 [1]   | -1 x0 [1] #0
		0!  | fat 0 [1 0] | -1 x0 [0 1] #0
		+1  | fat 0 [1 0] | -1 x0 [0 1] #0
		2<0 | fat 0 [1 0] | 2 x1 [0 1] #0
		0   | fat 0 [1 0] | 2 x1 [0 1] #0
		0   | fat 0 [1 0] | 2 x1 [1] #0
	`)
	if m.Word(stateCell) != 3 {
		t.Fatalf("its state is %d", m.Word(stateCell))
	}
	follows(t, m, 0, `
		0!  | fat 0 [1 0] | 2 x1 [1] #0
		+1  | fat 0 [1 0] | 2 x1 [1] #0
		1*2 | fat 0 [1 0] | 2 x1 [] #0
		2>1 | fat 0 [1 0] | 2 x1 [] #0
		2*2 | fat 0 [0]   | 2 x1 [] #0
		2   | fat 0 []    | 2 x1 [] #0
		1!  | fat 0 []    | 2 x1 [] #0
		2!  | fat 0 []    | 0 x1 [] #0
		0!  | fat 0 []    | 1 x1 [] #0
		1!  | fat 0 []    | -1 x0 [] #0
	`)
}

// P22.1: so of one that was interrupted.
func TestFatAndOneIsInterrupted(t *testing.T) {
	m := made(t, least(2), "enter 0; enter 0; wait 0; exit 0", "interrupt 0; enter 0; exit 0")
	follows(t, m, 0, `
		0!  | fat 0 [0] | -1 x0 [0] #0
		1<0 | fat 0 [0] | -1 x0 [0] #0
		0   | fat 0 [0] | -1 x0 [0] #0
		0   | fat 0 [0] | -1 x0 [] #0
	`)
	if m.Word(stateCell) != 4 {
		t.Fatalf("its state is %d", m.Word(stateCell))
	}
	follows(t, m, 0, `
		d   | fat 0 [0] | -1 x0 [] #0
		1<1 | fat 0 [0] | 1 x1 [] #0
		0!  | fat 0 [0] | 1 x1 [] #0
		1!  | fat 0 []  | 0 x2 [] #0
		0!  | fat 0 []  | 0 x1 [] #0
	`)
}

// P22.1: one that left by itself, and owns another object meanwhile, waits at neither.
func TestOneThatWaitsOwnsAnother(t *testing.T) {
	c := with(least(2), func(c *api.Config) { c.Objects, c.Slots = 2, 2 })
	m := made(t, c, "enter 1; hash 1; enter 1; enter 0; wait 0 1", "enter 0; exit 0; enter 1")
	does(t, m, "0!")
	shows(t, m, 0, "fat 1 [0]", "-1 x0 [0] #0")
	shows(t, m, 1, "fat 0 []", "0 x2 [] #5")
	does(t, m, "+1 0*2")
	shows(t, m, 0, "fat 1 [0]", "-1 x0 [] #0")
	shows(t, m, 1, "fat 0 []", "0 x2 [] #5")
	does(t, m, "0! 1!")
	shows(t, m, 0, "fat 1 []", "0 x1 [] #0")
	shows(t, m, 1, "fat 0 []", "0 x2 [] #5")
}

// P22.1, P22.5: a header that a deflation put back: Neutral, with its hash, or without.
func TestDeflated(t *testing.T) {
	follows(t, made(t, least(2), "hash 0; enter 0; exit 0; enter 0", "enter 0; exit 0"), 0, `
		0<1 | thin t0  | 0 x1 [] #5
		1!  | fat 0 [] | 0 x1 [] #5
		d   | fat 0 [] | 0 x1 [] #5
		0<2 | fat 0 [] | 1 x1 [] #5
		1!  | fat 0 [] | -1 x0 [] #5
		d   | neutral  | -1 x0 [] #5
		0!  | thin t0  | 0 x1 [] #5
	`)
	follows(t, made(t, least(2), "enter 0; exit 0; hash 0", "enter 0; exit 0"), 0, `
		0<0 | thin t0  | 0 x1 [] #0
		1!  | fat 0 [] | 0 x1 [] #0
		0<1 | fat 0 [] | 1 x1 [] #0
		1!  | fat 0 [] | -1 x0 [] #0
		d   | neutral  | -1 x0 [] #0
		0!  | neutral  | -1 x0 [] #5
	`)
}

// P22.1, P22.5: a slot that displaced another object's word ahead tells this one's hash.
func TestSlotThatIsUsedAnew(t *testing.T) {
	c := with(least(1), func(c *api.Config) { c.Objects = 2 })
	m := made(t, c, "enter 0; hash 0; exit 0; enter 1; hash 1")
	does(t, m, "0<2 d 0>4 0*7")
	shows(t, m, 0, "neutral", "-1 x0 [] #5")
	shows(t, m, 1, "fat 0 []", "0 x1 [] #0")
	does(t, m, "0!")
	shows(t, m, 1, "fat 0 []", "0 x1 [] #1116386629")
	shows(t, m, 0, "neutral", "-1 x0 [] #5")
}

// P22.5: a hash that is there stays, whatever becomes of its header: entered, left,
// inflated, waited at, deflated; and of its class: a new epoch, biased no more.
func TestHashStays(t *testing.T) {
	c := biased(with(least(3), func(c *api.Config) { c.Objects, c.Slots, c.Rebias, c.Revoke = 3, 2, 2, 3 }))
	m := made(t, c, "hash 0; enter 0; enter 0; wait 0 1; exit 0; exit 0; hash 0", "enter 0; exit 0; hash 0; hash 1", "hash 2; hash 0")
	follows(t, m, 0, `
		    | biased e0 | -1 x0 [] #0
		0<0 | neutral   | -1 x0 [] #5
		0<2 | thin t0   | 0 x2 [] #5
		1!  | fat 0 []  | 0 x2 [] #5
		0!  | fat 0 [0] | 1 x1 [0] #5
		1<1 | fat 0 [0] | -1 x0 [0] #5
		2<0 | fat 0 [0] | -1 x0 [0] #5
		+1  | fat 0 [0] | -1 x0 [0] #5
		0<3 | fat 0 []  | 0 x2 [] #5
		0<5 | fat 0 []  | -1 x0 [] #5
		1<2 | fat 0 []  | -1 x0 [] #5
		d   | neutral   | -1 x0 [] #5
		1!  | neutral   | -1 x0 [] #5
		0!  | neutral   | -1 x0 [] #5
		2!  | neutral   | -1 x0 [] #5
	`)
	if class := m.Classes()[0]; class.Biased || class.Epoch != 1 || class.Count != 3 {
		t.Errorf("the class is %+v", class)
	}
}
