package model_test

import (
	"math"
	"testing"

	"futtock/api"
	"futtock/model"
)

// P14.1: the kinds' numbers are those that the document tells.
func TestKinds(t *testing.T) {
	for i, kind := range []int{
		model.Enter, model.Try, model.Exit, model.Begin, model.Leave, model.End,
		model.Wake, model.Notify, model.All, model.Hash, model.Holds, model.Interrupt,
	} {
		if kind != i+1 {
			t.Errorf("the kind %d is %d", i+1, kind)
		}
	}
}

// What is ahead of cases.
const (
	twice  = "0 enter 0; 0 enter 0"              // 0 owns 0 twice
	most   = "0 enter 0; 0 enter 0; 0 enter 0"   // 0 owns 0 as often as may be
	waits  = twice + "; 0 begin 0"               // 0 waits at 0
	flag   = "; 2 interrupt 0 0"                 // 0 was interrupted
	late   = waits + "; 0 leave 0 time"          // 0 left 0, late
	broken = waits + flag + "; 0 leave 0 intr"   // 0 left 0, interrupted
	woken  = waits + "; 1 enter 0; 1 wake 0 0"   // 0 left 0, woken by 1, who owns it
	back   = woken + "; 1 exit 0"                // 0 left 0, and nobody owns it
	wait2  = waits + "; 2 enter 0; 2 begin 0"    // 0 and 2 wait at 0
	other  = "0 enter 1; 0 begin 1; 1 enter 0; " // 0 waits at 1, and 1 owns 0
)

// P14.1, P14.2: each kind with each error that the table tells for it, with what
// is told of the object 0 behind it, of three threads, two objects, and a greatest
// count of 3: written out.
func TestTransitions(t *testing.T) {
	for _, x := range []struct{ ahead, event, then string }{
		{"", "0 enter 0", "0 x1 w l h0 f"},
		{"0 enter 0", "0 enter 0", "0 x2 w l h0 f"},
		{twice, "0 enter 0", "0 x3 w l h0 f"},
		{most, "0 enter 0 over", "0 x3 w l h0 f"},
		{"0 enter 0", "1 enter 0 out", "0 x1 w l h0 f"},
		{most, "1 enter 0 out", "0 x3 w l h0 f"},
		{waits, "1 enter 0", "1 x1 w0 l h0 f"},
		{late, "2 enter 0", "2 x1 w l0 h0 f"},

		{"", "0 try 0", "0 x1 w l h0 f"},
		{"0 try 0", "0 try 0", "0 x2 w l h0 f"},
		{twice, "0 try 0", "0 x3 w l h0 f"},
		{most, "0 try 0 over", "0 x3 w l h0 f"},
		{"0 enter 0", "1 try 0 busy", "0 x1 w l h0 f"},
		{most, "1 try 0 busy", "0 x3 w l h0 f"},
		{waits, "1 try 0", "1 x1 w0 l h0 f"},

		{"0 enter 0", "0 exit 0", "-1 x0 w l h0 f"},
		{twice, "0 exit 0", "0 x1 w l h0 f"},
		{most, "0 exit 0", "0 x2 w l h0 f"},
		{"", "0 exit 0 state", "-1 x0 w l h0 f"},
		{"0 enter 0", "1 exit 0 state", "0 x1 w l h0 f"},
		{"0 enter 1", "0 exit 0 state", "-1 x0 w l h0 f"},

		{"", "0 begin 0 state", "-1 x0 w l h0 f"},
		{"0 enter 0", "1 begin 0 state", "0 x1 w l h0 f"},
		{"2 interrupt 0 0", "0 begin 0 state", "-1 x0 w l h0 f0"},
		{twice + flag, "0 begin 0 intr", "0 x2 w l h0 f"},
		{twice + flag + "; 1 interrupt 0 1", "0 begin 0 intr", "0 x2 w l h0 f1"},
		{twice, "0 begin 0", "-1 x0 w0 l h0 f"},
		{twice + flag, "0 begin 0", "-1 x0 w0 l h0 f0"},
		{waits + "; 2 enter 0", "2 begin 0", "-1 x0 w0,2 l h0 f"},
		{"2 enter 0; 2 begin 0; 0 enter 0", "0 begin 0", "-1 x0 w0,2 l h0 f"},
		{twice, "0 begin 0 out", "0 x2 w l h0 f"},
		{twice + flag, "0 begin 0 out", "0 x2 w l h0 f0"},

		{waits, "0 leave 0 time", "-1 x0 w l0 h0 f"},
		{waits + flag, "0 leave 0 time", "-1 x0 w l0 h0 f0"},
		{waits + flag, "0 leave 0 intr", "-1 x0 w l0 h0 f0"},
		{waits + "; 1 enter 0", "0 leave 0 time", "1 x1 w l0 h0 f"},
		{wait2, "0 leave 0 time", "-1 x0 w2 l0 h0 f"},
		{wait2 + "; 2 leave 0 time", "0 leave 0 time", "-1 x0 w l0,2 h0 f"},

		{late, "0 end 0 time", "0 x2 w l h0 f"},
		{late + flag, "0 end 0 time", "0 x2 w l h0 f0"},
		{broken, "0 end 0 intr", "0 x2 w l h0 f"},
		{broken + "; 1 interrupt 0 1", "0 end 0 intr", "0 x2 w l h0 f1"},
		{back, "0 end 0", "0 x2 w l h0 f"},
		{back + flag, "0 end 0", "0 x2 w l h0 f0"},
		{"0 enter 0; 0 begin 0; 0 leave 0 time", "0 end 0 time", "0 x1 w l h0 f"},
		{most + "; 0 begin 0; 0 leave 0 time", "0 end 0 time", "0 x3 w l h0 f"},

		{waits + "; 1 enter 0", "1 wake 0 0", "1 x1 w l0 h0 f"},
		{waits + flag + "; 1 enter 0", "1 wake 0 0", "1 x1 w l0 h0 f0"},
		{wait2 + "; 1 enter 0", "1 wake 0 2", "1 x1 w0 l2 h0 f"},
		{wait2 + "; 1 enter 0; 1 wake 0 2", "1 wake 0 0", "1 x1 w l0,2 h0 f"},

		{"", "0 notify 0 -1 state", "-1 x0 w l h0 f"},
		{"0 enter 0", "1 notify 0 -1 state", "0 x1 w l h0 f"},
		{waits, "1 notify 0 -1 state", "-1 x0 w0 l h0 f"},
		{"0 enter 0", "0 notify 0 -1", "0 x1 w l h0 f"},
		{woken, "1 notify 0 0", "1 x1 w l0 h0 f"},
		{woken, "1 notify 0 -1", "1 x1 w l0 h0 f"},
		{wait2 + "; 1 enter 0; 1 wake 0 0", "1 notify 0 0", "1 x1 w2 l0 h0 f"},
		{"0 enter 0", "0 notify 0 0", "0 x1 w l h0 f"},
		{"0 enter 0", "0 notify 0 2", "0 x1 w l h0 f"},
		{other, "1 notify 0 -1", "1 x1 w l h0 f"},

		{"", "0 all 0 state", "-1 x0 w l h0 f"},
		{"0 enter 0", "1 all 0 state", "0 x1 w l h0 f"},
		{waits, "1 all 0 state", "-1 x0 w0 l h0 f"},
		{"0 enter 0", "0 all 0", "0 x1 w l h0 f"},
		{woken, "1 all 0", "1 x1 w l0 h0 f"},
		{other, "1 all 0", "1 x1 w l h0 f"},

		{"", "0 hash 0 1", "-1 x0 w l h1 f"},
		{"", "0 hash 0 2147483647", "-1 x0 w l h2147483647 f"},
		{"0 enter 0", "1 hash 0 7", "0 x1 w l h7 f"},
		{"0 hash 0 7", "0 hash 0 7", "-1 x0 w l h7 f"},
		{"0 hash 0 7", "1 hash 0 7", "-1 x0 w l h7 f"},
		{"0 hash 1 7", "1 hash 0 8", "-1 x0 w l h8 f"},
		{"0 enter 0", "0 hash 0 out", "0 x1 w l h0 f"},
		{"0 enter 0", "1 hash 0 out", "0 x1 w l h0 f"},
		{"0 hash 0 7; 0 enter 0", "1 hash 0 out", "0 x1 w l h7 f"},

		{"0 enter 0", "0 holds 0 1", "0 x1 w l h0 f"},
		{"0 enter 0", "1 holds 0", "0 x1 w l h0 f"},
		{twice, "0 holds 0 1", "0 x2 w l h0 f"},
		{"", "0 holds 0", "-1 x0 w l h0 f"},
		{"0 enter 1", "0 holds 0", "-1 x0 w l h0 f"},

		{"", "0 interrupt 0 1", "-1 x0 w l h0 f1"},
		{"", "0 interrupt 0 0", "-1 x0 w l h0 f0"},
		{"", "0 interrupt 1 2", "-1 x0 w l h0 f2"},
		{"0 interrupt 0 1", "2 interrupt 0 1", "-1 x0 w l h0 f1"},
		{waits, "1 interrupt 0 0", "-1 x0 w0 l h0 f0"},
		{late, "1 interrupt 0 0", "-1 x0 w l0 h0 f0"},
	} {
		m := behind(t, 3, 2, 3, x.ahead)
		does(t, m, x.event)
		if got := says(m, 0); got != x.then {
			t.Errorf("%q, %q: %s, not %s", x.ahead, x.event, got, x.then)
		}
	}
}

// P14.1: what may not be done, of three threads, two objects, and a greatest count
// of 3: written out. Nothing is turned by it.
func TestTransitionsThatMayNotBe(t *testing.T) {
	for _, x := range []struct{ ahead, events string }{
		{"", "0 enter 0 over; 0 enter 0 out; 0 enter 0 busy; 0 enter 0 1; 0 enter 0 -1; 0 enter 0 state"},
		{twice, "0 enter 0 over; 0 enter 0 out; 1 enter 0; 1 enter 0 over; 1 enter 0 busy; 1 enter 0 1 out; 1 enter 0 state"},
		{most, "0 enter 0; 0 enter 0 out; 0 enter 0 1 over; 1 enter 0 over; 1 enter 0"},

		{"", "0 try 0 over; 0 try 0 out; 0 try 0 busy; 0 try 0 1; 0 try 0 -1"},
		{twice, "0 try 0 over; 0 try 0 busy; 1 try 0; 1 try 0 over; 1 try 0 out; 1 try 0 1 busy"},
		{most, "0 try 0; 0 try 0 busy; 0 try 0 1 over; 1 try 0 over; 1 try 0"},

		{"", "0 exit 0; 0 exit 0 1 state; 0 exit 0 out"},
		{twice, "0 exit 0 state; 0 exit 0 1; 0 exit 0 -1; 1 exit 0; 1 exit 0 1 state; 0 exit 1"},

		{"", "0 begin 0; 0 begin 0 intr; 0 begin 0 out; 0 begin 0 1 state; 0 begin 0 time"},
		{"2 interrupt 0 0", "0 begin 0; 0 begin 0 intr; 0 begin 0 out"},
		{twice, "0 begin 0 state; 0 begin 0 intr; 0 begin 0 1; 0 begin 0 -1 out; 0 begin 0 time; 0 begin 0 busy; 1 begin 0; 1 begin 0 out"},
		{twice + flag, "0 begin 0 state; 0 begin 0 1 intr; 1 begin 0 intr"},
		{twice + "; 2 interrupt 0 1", "0 begin 0 intr; 1 begin 0 intr"},

		{"", "0 leave 0; 0 leave 0 time; 0 leave 0 intr; 0 leave 0 state"},
		{twice + flag, "0 leave 0; 0 leave 0 time; 0 leave 0 intr"},
		{waits, "0 leave 0; 0 leave 0 intr; 0 leave 0 1 time; 0 leave 0 -1 time; 0 leave 0 out; 0 leave 1 time; 1 leave 0 time"},
		{waits + flag, "0 leave 0; 0 leave 0 1 intr; 0 leave 1 intr; 1 leave 0 intr"},
		{waits + "; 2 interrupt 0 1", "0 leave 0 intr; 1 leave 0 intr"},
		{late + flag, "0 leave 0; 0 leave 0 time; 0 leave 0 intr"},
		{back + flag, "0 leave 0; 0 leave 0 time; 0 leave 0 intr"},

		{"", "0 end 0; 0 end 0 time; 0 end 0 intr; 0 end 0 state"},
		{twice, "0 end 0; 0 end 0 time; 0 end 0 intr; 0 end 0 state"},
		{waits, "0 end 0; 0 end 0 time; 0 end 0 intr; 1 end 0; 1 end 0 time"},
		{waits + flag, "0 end 0; 0 end 0 time; 0 end 0 intr"},
		{late, "0 end 0; 0 end 0 intr; 0 end 0 out; 0 end 0 1 time; 0 end 0 -1 time; 0 end 1 time; 1 end 0 time"},
		{late + flag, "0 end 0; 0 end 0 intr"},
		{broken, "0 end 0; 0 end 0 time; 0 end 0 out; 0 end 0 1 intr; 0 end 1 intr; 1 end 0 intr"},
		{back, "0 end 0 time; 0 end 0 intr; 0 end 0 out; 0 end 0 1; 0 end 1; 1 end 0"},
		{back + flag, "0 end 0 time; 0 end 0 intr"},
		{woken, "0 end 0; 0 end 0 time; 1 end 0"},
		{late + "; 1 enter 0", "0 end 0 time; 0 end 0; 1 end 0 time"},
		{broken + "; 1 enter 0", "0 end 0 intr; 0 end 0; 1 end 0 intr"},

		{"", "0 wake 0; 0 wake 0 1; 0 wake 0 -1"},
		{twice, "0 wake 0; 0 wake 0 1; 0 wake 0 -1; 0 wake 0 3"},
		{waits, "1 wake 0 0; 1 wake 0 0 state; 1 wake 0 -1 state"},
		{waits + "; 1 enter 0", "1 wake 0 1; 1 wake 0 2; 1 wake 0 -1; 1 wake 0 3; 1 wake 0 0 state; 1 wake 0 0 time; 1 wake 1 0; 2 wake 0 0"},
		{waits + "; 1 enter 1", "1 wake 0 0; 1 wake 1 0"},
		{other, "1 wake 0 0; 1 wake 1 0"},
		{woken, "1 wake 0 0"},
		{late + "; 1 enter 0", "1 wake 0 0"},

		{"", "0 notify 0 -1; 0 notify 0; 0 notify 0 state; 0 notify 0 1 state; 0 notify 0 -2 state"},
		{"0 enter 0", "0 notify 0 -1 state; 0 notify 0 -2; 0 notify 0 3; 0 notify 0 8; 0 notify 0 -1 out; 0 notify 0 1 state; 1 notify 0 -1; 1 notify 0; 1 notify 0 state; 1 notify 0 1 state"},
		{waits + "; 1 enter 0", "1 notify 0 -1; 1 notify 0 3; 1 notify 0 -2; 2 notify 0 -1; 2 notify 0; 2 notify 0 state"},
		{wait2 + "; 1 enter 0; 1 wake 0 0", "1 notify 0 -1; 1 notify 0 3"},

		{"", "0 all 0; 0 all 0 1 state; 0 all 0 -1 state; 0 all 0 out"},
		{"0 enter 0", "0 all 0 state; 0 all 0 1; 0 all 0 -1; 1 all 0; 1 all 0 1 state"},
		{waits + "; 1 enter 0", "1 all 0; 1 all 0 state; 2 all 0"},
		{wait2 + "; 1 enter 0; 1 wake 0 0", "1 all 0"},

		{"", "0 hash 0; 0 hash 0 -1; 0 hash 0 2147483648; 0 hash 0 4294967297; 0 hash 0 9223372036854775807; 0 hash 0 -2147483648; 0 hash 0 1 state; 0 hash 0 out; 0 hash 0 7 out"},
		{"0 hash 0 7", "0 hash 0; 0 hash 0 8; 0 hash 0 6; 0 hash 0 -7; 0 hash 0 4294967303; 0 hash 0 out; 0 hash 0 7 out"},
		{"0 hash 0 7; 0 enter 0", "0 hash 0; 1 hash 0 8; 1 hash 0 7 out; 0 hash 0 1 out; 1 hash 0 -1 out"},
		{"0 hash 1 7; 0 enter 1", "0 hash 0; 0 hash 0 out; 0 hash 1 8"},
		{waits, "1 hash 0 out"},

		{"", "0 holds 0 1; 0 holds 0 -1; 0 holds 0 2; 0 holds 0 state"},
		{twice, "0 holds 0; 0 holds 0 2; 0 holds 0 -1; 1 holds 0 1; 0 holds 1 1; 0 holds 0 1 state; 1 holds 0 state; 1 holds 0 out"},

		{"", "0 interrupt 0 -1; 0 interrupt 0 3; 0 interrupt 0 8; 0 interrupt 0 1 intr; 0 interrupt 0 0 state; 0 interrupt 0 4294967297"},
	} {
		m := behind(t, 3, 2, 3, x.ahead)
		was := [2]string{says(m, 0), says(m, 1)}
		same := behind(t, 3, 2, 3, x.ahead)
		for _, e := range events(t, x.events) {
			if err := m.Apply(e); err != api.ErrBroken {
				t.Errorf("%q: Apply(%v) is %d", x.ahead, e, err)
			}
			if now := [2]string{says(m, 0), says(m, 1)}; now != was {
				t.Errorf("%q: Apply(%v) turns %v to %v", x.ahead, e, was, now)
			}
			if !m.Same(same) {
				t.Errorf("%q: Apply(%v) turns something", x.ahead, e)
			}
		}
	}
}

// P14.1: the document's example.
func TestEnterAndExit(t *testing.T) {
	m := behind(t, 1, 1, 1, "0 enter 0; 0 exit 0")
	if m.Owner(0) != -1 || m.Count(0) != 0 {
		t.Errorf("%d owns it, %d times", m.Owner(0), m.Count(0))
	}
}

// P14.1: who waits, or left, may do nothing but its Leave, or its End, of that
// object: whatever it may do else is done by another one.
func TestWhoIsAwayDoesNothingElse(t *testing.T) {
	for _, ahead := range []string{waits, waits + flag, late, late + flag, broken, back} {
		m := behind(t, 3, 2, 3, ahead)
		is := says(m, 0)
		for _, kind := range []int{
			model.Enter, model.Try, model.Exit, model.Begin, model.Wake, model.Notify, model.All, model.Hash, model.Holds, model.Interrupt,
		} {
			for obj := range 2 {
				for arg := -1; arg < 4; arg++ {
					for err := range api.Errno(16) {
						e := model.Event{Kind: kind, Thread: 0, Obj: obj, Arg: arg, Err: err}
						if got := m.Apply(e); got != api.ErrBroken {
							t.Errorf("%q: Apply(%v) is %d", ahead, e, got)
						}
					}
				}
			}
		}
		for err := range api.Errno(16) {
			for _, kind := range []int{model.Leave, model.End} {
				e := model.Event{Kind: kind, Thread: 0, Obj: 1, Err: err}
				if got := m.Apply(e); got != api.ErrBroken {
					t.Errorf("%q: Apply(%v) is %d", ahead, e, got)
				}
			}
		}
		if says(m, 0) != is {
			t.Errorf("%q: %s, not %s", ahead, says(m, 0), is)
		}
		does(t, m, "1 enter 1; 1 hash 1 3; 1 holds 1 1; 1 notify 1 -1; 1 all 1; 1 exit 1; 1 interrupt 0 0")
	}
}

// P14.1: who owns another object as it waits owns that still, and others find it
// so.
func TestWaitOfOneThatOwnsAnother(t *testing.T) {
	m := behind(t, 2, 2, 3, "0 enter 1; 0 enter 1; 0 enter 0; 0 begin 0")
	for i := range 2 {
		if got := says(m, 1); got != "0 x2 w l h0 f" {
			t.Fatal(i, got)
		}
		does(t, m, "1 try 1 busy; 1 exit 1 state; 1 enter 0; 1 exit 0")
		if i == 0 {
			does(t, m, "0 leave 0 time")
		}
	}
	does(t, m, "0 end 0 time; 0 exit 1; 0 exit 0; 0 exit 1; 1 enter 1")
}

// P14.1: a waiter has its count again, whatever it was and however it left, at the
// least counts that there may be and the greatest ones.
func TestCountComesBack(t *testing.T) {
	for _, greatest := range []int{1, 2, 59, 60} {
		for count := 1; count <= greatest; count++ {
			for _, way := range []string{
				"0 begin 0; 0 leave 0 time; 0 end 0 time",
				"0 begin 0; 1 interrupt 0 0; 0 leave 0 intr; 0 end 0 intr",
				"0 begin 0; 1 enter 0; 1 wake 0 0; 1 notify 0 0; 1 exit 0; 0 end 0",
			} {
				m, _ := made(t, 2, 1, greatest)
				for range count {
					does(t, m, "0 enter 0")
				}
				ahead := m.Clone()
				for _, e := range events(t, way) {
					if err := m.Apply(e); err != api.OK {
						t.Fatalf("Apply(%v) of %d is %d", e, count, err)
					}
					if e.Kind != model.End && e.Thread == 0 && m.Owner(0) != -1 {
						t.Fatalf("%v: who waits owns it", e)
					}
				}
				if !m.Same(ahead) || m.Count(0) != count {
					t.Errorf("%q: %d times, not %d", way, m.Count(0), count)
				}
			}
		}
	}
}

// P14.1: an Enter, and a Try, at the greatest count and one below it.
func TestEnterUpToTheGreatestCount(t *testing.T) {
	for _, greatest := range []int{1, 2, 59, 60} {
		for _, kind := range []int{model.Enter, model.Try} {
			m, s := made(t, 2, 1, greatest)
			for n := range greatest {
				if m.Count(0) != n {
					t.Fatalf("Count is %d, not %d", m.Count(0), n)
				}
				applied(t, m, s, model.Event{Kind: kind, Err: api.ErrOver})
				s, _ = applied(t, m, s, model.Event{Kind: kind})
			}
			for range 2 {
				for _, err := range []api.Errno{api.OK, api.ErrOver, api.ErrOut, api.ErrBusy} {
					applied(t, m, s, model.Event{Kind: kind, Err: err})
				}
				shows(t, m, s)
			}
			for n := range greatest {
				if m.Count(0) != greatest-n || m.Owner(0) != 0 {
					t.Fatalf("%d owns it %d times, not %d", m.Owner(0), m.Count(0), greatest-n)
				}
				does(t, m, "0 exit 0")
			}
			if m.Count(0) != 0 || m.Owner(0) != -1 {
				t.Fatalf("%d owns it %d times still", m.Owner(0), m.Count(0))
			}
		}
	}
}

// P14.1: a thread, or an object, that there is not, in each kind, in place of one
// of which it may be done; and an Arg that is none.
func TestNumbersThatAreNone(t *testing.T) {
	for _, x := range []struct{ ahead, event string }{
		{"", "0 enter 0"}, {most, "0 enter 0 over"}, {"1 enter 0", "0 enter 0 out"},
		{"", "0 try 0"}, {most, "0 try 0 over"}, {"1 enter 0", "0 try 0 busy"},
		{twice, "0 exit 0"}, {"", "0 exit 0 state"},
		{"", "0 begin 0 state"}, {twice + flag, "0 begin 0 intr"}, {twice, "0 begin 0"}, {twice, "0 begin 0 out"},
		{waits, "0 leave 0 time"}, {waits + flag, "0 leave 0 intr"},
		{back, "0 end 0"}, {late, "0 end 0 time"}, {broken, "0 end 0 intr"},
		{"1 enter 0; 1 begin 0; 0 enter 0", "0 wake 0 1"},
		{"", "0 notify 0 -1 state"}, {twice, "0 notify 0 -1"},
		{"", "0 all 0 state"}, {twice, "0 all 0"},
		{"", "0 hash 0 5"}, {twice, "0 hash 0 out"},
		{twice, "0 holds 0 1"}, {"", "0 holds 0"},
		{"", "0 interrupt 0 1"},
	} {
		m := behind(t, 3, 2, 3, x.ahead)
		same := m.Clone()
		right := event(t, x.event)
		broke := func(e model.Event) {
			if err := m.Apply(e); err != api.ErrBroken || !m.Same(same) {
				t.Fatalf("%q: Apply(%v) is %d", x.ahead, e, err)
			}
		}
		for _, n := range noNumbers(3) {
			e := right
			e.Thread = n
			broke(e)
		}
		for _, n := range noNumbers(2) {
			e := right
			e.Obj = n
			broke(e)
		}
		for _, n := range noNumbers(3) {
			e := right
			e.Arg = n
			if e.Arg != right.Arg && (e.Kind != model.Hash || e.Err != api.OK || n < 1 || n > math.MaxInt32) {
				broke(e)
			}
		}
		for _, kind := range []int{0, -1, 13, 14, 255, 256 + right.Kind, 1<<32 + right.Kind, -right.Kind, math.MaxInt, math.MinInt} {
			e := right
			e.Kind = kind
			broke(e)
		}
		for _, err := range []api.Errno{-1, -9, 1, 2, 3, 4, 5, 6, 7, 8, 15, 16, 17, 256 + right.Err, 1<<32 + right.Err, math.MaxInt, math.MinInt} {
			e := right
			e.Err = err
			broke(e)
		}
		does(t, m, x.event)
	}
}

// P14.1: kinds that are none may not be done, whatever else they tell.
func TestKindsThatAreNone(t *testing.T) {
	m := behind(t, 3, 2, 3, twice+"; 1 enter 1; 1 begin 1; 2 hash 0 1")
	same := m.Clone()
	for _, kind := range []int{0, -1, -12, 13, 14, 100, 1 << 32, 1<<32 + 1, math.MaxInt, math.MinInt} {
		for thread := range 3 {
			for obj := range 2 {
				for arg := -1; arg < 3; arg++ {
					for err := api.Errno(-1); err < 17; err++ {
						e := model.Event{Kind: kind, Thread: thread, Obj: obj, Arg: arg, Err: err}
						if got := m.Apply(e); got != api.ErrBroken || !m.Same(same) {
							t.Fatalf("Apply(%v) is %d", e, got)
						}
					}
				}
			}
		}
	}
}
