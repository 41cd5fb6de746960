package abst_test

import (
	"fmt"
	"strings"
	"testing"

	"futtock/abst"
	"futtock/api"
)

// P22.1: of the machine that has one of each.
func TestLeastMachine(t *testing.T) {
	c := api.Config{Threads: 1, Objects: 1, Classes: 1, Slots: 1, Count: 1, Rebias: 1, Revoke: 1, Seed: seedOf5}
	follows(t, made(t, c, "enter 0; enter 0; wait 0 1; hash 0; exit 0"), 0, `
		    | neutral   | -1 x0 [] #0
		0<0 | thin t0   | 0 x1 [] #0
		0<1 | thin t0   | 0 x1 [] #0
		0!  | fat 0 [0] | -1 x0 [0] #0
		+1  | fat 0 [0] | -1 x0 [0] #0
		0<2 | fat 0 []  | 0 x1 [] #0
		0<3 | fat 0 []  | 0 x1 [] #5
		0!  | fat 0 []  | -1 x0 [] #5
		d   | neutral   | -1 x0 [] #5
	`)
	follows(t, made(t, biased(c), "enter 0; exit 0; hash 0; enter 0"), 0, `
		    | biased e0    | -1 x0 [] #0
		0<0 | biased e0 t0 | 0 x1 [] #0
		0<1 | biased e0 t0 | -1 x0 [] #0
		0<2 | neutral      | -1 x0 [] #5
		0!  | thin t0      | 0 x1 [] #5
	`)
}

// P22.1: each thread, the first and the last one among them, at each object, likewise,
// as the other ones stay as they are.
func TestEachThreadAtEachObject(t *testing.T) {
	const rest = "-1 x0 [] #0"
	for thread := range 8 {
		for obj := range 8 {
			texts := make([]string, 8)
			texts[thread] = fmt.Sprintf("enter %d; enter %d; wait %d 1; hash %d; exit %d; exit %d", obj, obj, obj, obj, obj, obj)
			for _, c := range []api.Config{greatest(), biased(greatest())} {
				m := made(t, c, texts...)
				for _, row := range []struct{ moves, state string }{
					{"", rest},
					{"T<0", "T x1 [] #0"},
					{"T<1", "T x2 [] #0"},
					{"T!", "-1 x0 [T] #0"},
					{"+1 T<2", "T x2 [] #0"},
					{"T<3", "T x2 [] #5"},
					{"T<4", "T x1 [] #5"},
					{"T<5", "-1 x0 [] #5"},
					{"d", "-1 x0 [] #5"},
				} {
					of := func(text string) string { return strings.ReplaceAll(text, "T", fmt.Sprint(thread)) }
					does(t, m, of(row.moves))
					for o, s := range abst.All(m) {
						want := rest
						if o == obj {
							want = of(row.state)
						}
						is, ok := abst.Of(m, o)
						if text(s) != want || text(is) != want || text(abst.Model(m, o)) != want || !ok {
							t.Fatalf("%d at %d, behind %q the state of %d is %s, %s, not %s", thread, obj, row.moves, o, text(s), text(is), want)
						}
					}
					if !abst.Agrees(m) {
						t.Fatalf("%d at %d, behind %q it does not agree", thread, obj, row.moves)
					}
				}
			}
		}
	}
}

// P22.1: objects of one machine whose headers are of several kinds, each of which has
// its own state: the first thread waits at the first one, the last thread at the last.
func TestAllOfOneMachine(t *testing.T) {
	c := greatest()
	c.Bias = 1 << 2
	m := made(t, c, "enter 0; enter 0; wait 0", "enter 1; enter 1; enter 1", "enter 2; enter 2", "hash 3", "enter 4; hash 4; exit 4", "enter 6; exit 6", "wait 0", "enter 7; enter 7; wait 7")
	does(t, m, "0! 1! 2! 3! 4! 5! 7!")
	want := []string{"-1 x0 [0] #0", "1 x3 [] #0", "2 x2 [] #0", "-1 x0 [] #5", "-1 x0 [] #1116386629", "-1 x0 [] #0", "-1 x0 [] #0", "-1 x0 [7] #0"}
	headers := []string{"fat 0 [0]", "thin t1", "biased e0 t2", "neutral", "fat 1 []", "neutral", "biased e0 t5", "fat 2 [7]"}
	for o := range 8 {
		shows(t, m, o, headers[o], want[o])
	}
}

// P22.1: the last slot that can be in use, of a machine of as many as there may be:
// eight objects are Fat at most, and seven other threads hold a slot ahead of finding
// that their inflation came too late.
func TestLastSlots(t *testing.T) {
	hashes := "enter 7"
	for o := range 7 {
		hashes += fmt.Sprintf("; enter %[1]d; hash %[1]d", o)
	}
	const enter = "enter 7"
	m := made(t, greatest(), hashes+"; hash 7; wait 7", enter, enter, enter, enter, enter, enter, enter)
	does(t, m, "0<14 1*3 2*3 3*3 4*3 5*3 6*3 7*3")
	shows(t, m, 7, "thin t0", "0 x1 [] #0")
	does(t, m, "0>15 0*4")
	shows(t, m, 7, "0", "0 x1 [] #0")
	does(t, m, "0*4")
	shows(t, m, 7, "fat 14 []", "0 x1 [] #0")
	does(t, m, "0<15")
	if s, _ := abst.Of(m, 7); s.Owner != 0 || s.Hash == 0 || m.Word(lockCell+14) != 1 || m.Word(dispCell+14) != uint64(s.Hash)<<8+1 {
		t.Errorf("the state is %s, the words are %#x, %#x", text(s), m.Word(lockCell+14), m.Word(dispCell+14))
	}
	does(t, m, "0!")
	if s, _ := abst.Of(m, 7); s.Owner != -1 || len(s.Waiters) != 1 || headerText(m, 7) != "fat 14 [0]" || !abst.Agrees(m) {
		t.Errorf("the state is %s, the header %q", text(s), headerText(m, 7))
	}
	does(t, m, "1! 2! 3! 4! 5! 6! 7!")
	if s, _ := abst.Of(m, 7); s.Owner != 1 || s.Count != 1 || len(s.Waiters) != 1 || s.Waiters[0] != 0 || !abst.Agrees(m) {
		t.Errorf("the state is %s, the header %q", text(s), headerText(m, 7))
	}
}

// P22.1: each slot of eight, the last one among them.
func TestEachSlot(t *testing.T) {
	var enters []string
	for o := range 8 {
		enters = append(enters, fmt.Sprintf("enter %[1]d; hash %[1]d; wait %[1]d", o))
	}
	m := made(t, with(greatest(), func(c *api.Config) { c.Slots = 8 }), enters...)
	for _, thread := range []int{3, 7, 0, 5, 1, 6, 2, 4} {
		does(t, m, fmt.Sprintf("%d<1", thread))
	}
	for slot, thread := range []int{3, 7, 0, 5, 1, 6, 2, 4} {
		s, _ := abst.Of(m, thread)
		shows(t, m, thread, fmt.Sprintf("fat %d []", slot), fmt.Sprintf("%d x1 [] #%d", thread, s.Hash))
		does(t, m, fmt.Sprintf("%d!", thread))
		shows(t, m, thread, fmt.Sprintf("fat %d [%d]", slot, thread), fmt.Sprintf("-1 x0 [%d] #%d", thread, s.Hash))
	}
}

// P22.1: seven wait at one object, the first thread and the last one among them.
func TestSevenWait(t *testing.T) {
	for free := range 8 {
		texts := []string{"", "", "", "", "", "", "", ""}
		moves, all := "", []int(nil)
		for thread := range 8 {
			if texts[thread] = "enter 7; hash 7"; thread != free {
				texts[thread] = "enter 7; wait 7"
				moves = fmt.Sprintf("%d! ", thread) + moves
				all = append(all, thread)
			}
		}
		m := made(t, greatest(), texts...)
		does(t, m, moves)
		if s, _ := abst.Of(m, 7); text(s) != fmt.Sprintf("-1 x0 %v #0", all) || !abst.Agrees(m) {
			t.Errorf("the state is %s, the header %q", text(s), headerText(m, 7))
		}
		does(t, m, fmt.Sprintf("%d!", free))
		if s, _ := abst.Of(m, 7); text(s) != fmt.Sprintf("%d x1 %v #5", free, all) || !abst.Agrees(m) {
			t.Errorf("the state is %s, the header %q", text(s), headerText(m, 7))
		}
	}
}

// P22.1: an object that is owned as often as Count, by whatever header; once more is
// ErrOver, which turns nothing.
func TestOwnedAsOftenAsCount(t *testing.T) {
	for _, count := range []int{1, 2, 59, 60} {
		enters := strings.Repeat("enter 0; ", count) + "try 0; enter 0"
		c := with(least(2), func(c *api.Config) { c.Count = count })
		state := fmt.Sprintf("0 x%d [] #0", count)
		for _, c := range []api.Config{c, biased(c)} {
			header := "thin t0"
			if c.Bias > 0 {
				header = "biased e0 t0"
			}
			m := made(t, c, enters, "enter 0")
			does(t, m, fmt.Sprintf("0<%d", count-1))
			shows(t, m, 0, header, state)
			does(t, m, "0!")
			shows(t, m, 0, header, state)
			does(t, m, "1!")
			shows(t, m, 0, "fat 0 []", state)
		}
		m := made(t, c, enters+"; wait 0 1")
		does(t, m, "0!")
		shows(t, m, 0, "fat 0 [0]", "-1 x0 [0] #0")
		does(t, m, "+1 0!")
		shows(t, m, 0, "fat 0 []", state)
	}
}

// P22.1: each class, the first and the last one, of one and of four, biased or not.
func TestEachClass(t *testing.T) {
	for classes := 1; classes <= 4; classes++ {
		for class := range classes {
			c := greatest()
			c.Classes, c.Bias = classes, 1<<class
			m := made(t, c, "enter 0; enter 1; enter 2; enter 3; enter 4; enter 5; enter 6; enter 7")
			for o := range 8 {
				ahead, behind := "neutral", "thin t0"
				if o%classes == class {
					ahead, behind = "biased e0", "biased e0 t0"
				}
				shows(t, m, o, ahead, "-1 x0 [] #0")
				does(t, m, fmt.Sprintf("0<%d", o))
				shows(t, m, o, behind, "0 x1 [] #0")
			}
		}
	}
}
