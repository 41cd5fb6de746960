package ghost_test

import (
	"math"
	"strings"
	"testing"

	"futtock/api"
	"futtock/ghost"
	"futtock/model"
)

// refuses tells of entries of a text that a log takes behind others, or by which it
// is turned.
func refuses(t *testing.T, ahead, wrong, then string) {
	t.Helper()
	right := entries(t, ahead)
	log := small.log(t, right)
	for part := range strings.SplitSeq(wrong, ";") {
		e := entry(t, right, part)
		for range 2 {
			if err := log.Add(e); err != api.ErrBroken {
				t.Errorf("%q: Add of %q is %d", ahead, part, err)
			}
			small.shows(t, log, right)
		}
		if n, ok := ghost.Right(small.threads, small.objects, small.most, append(entries(t, ahead), e)); n != len(right) || ok {
			t.Errorf("%q: Right behind %q is %d, %v", ahead, part, n, ok)
		}
	}
	if then == "" {
		return
	}
	for _, e := range entries(t, ahead+"; "+then)[len(right):] {
		if err := log.Add(e); err != api.OK {
			t.Errorf("%q: Add of %s of %q is %d", ahead, line(e), then, err)
		}
	}
}

// P15.1: the document's example.
func TestExitThatIsRefused(t *testing.T) {
	l, err := ghost.New(1, 1, 1)
	if err != api.OK {
		t.Fatal(err)
	}
	for _, x := range []struct {
		e    ghost.Entry
		want api.Errno
	}{
		{ghost.Entry{Kind: ghost.Call, Op: api.Op{Kind: 3}}, api.OK},
		{ghost.Entry{Kind: ghost.Return, Err: api.ErrState}, api.ErrBroken},
		{ghost.Entry{Kind: ghost.Commit, Event: model.Event{Kind: model.Exit}}, api.ErrBroken},
		{ghost.Entry{Kind: ghost.Commit, Event: model.Event{Kind: model.Exit, Err: api.ErrState}}, api.OK},
		{ghost.Entry{Kind: ghost.Return}, api.ErrBroken},
		{ghost.Entry{Kind: ghost.Return, Err: api.ErrState}, api.OK},
		{ghost.Entry{Kind: ghost.Return, Err: api.ErrState}, api.ErrBroken},
	} {
		if err := l.Add(x.e); err != x.want {
			t.Errorf("Add of %s is %d, not %d", line(x.e), err, x.want)
		}
	}
	if l.Len() != 3 {
		t.Errorf("Len is %d", l.Len())
	}
}

// P15.1: the kinds' numbers are those that the document tells, as Add takes no
// others.
func TestKinds(t *testing.T) {
	if ghost.Call != 1 || ghost.Commit != 2 || ghost.Return != 3 {
		t.Errorf("the kinds are %d, %d, %d", ghost.Call, ghost.Commit, ghost.Return)
	}
}

// P15.1: Calls that may not be.
func TestCallsThatMayNotBe(t *testing.T) {
	for _, x := range []struct{ ahead, wrong, then string }{
		// An operation's number.
		{"", "0 call enter 0 #1; 0 call enter 0 #-1; 2 call enter 0 #1", "0 call enter 0"},
		{owns, "0 call enter 0 #0; 0 call enter 0 #2; 1 call enter 0 #1", "1 call enter 0 #0; 0 call exit 0 #1"},
		{twice, "0 call enter 0 #0; 0 call enter 0 #1; 0 call enter 0 #3; 1 call enter 0 #2", "0 call exit 0 #2"},
		// One who called calls no more.
		{"0 call enter 0", "0 call enter 0; 0 call enter 0 #0; 0 call enter 0 #1; 0 call exit 0", "0 enter 0; 0 return"},
		{"0 call enter 0; 0 enter 0", "0 call enter 0; 0 call enter 0 #0; 0 call exit 0 #1", "0 return"},
		{waits, "0 call exit 0; 0 call exit 0 #2; 0 call interrupt 0 0 #3", "0 leave 0 time"},
		{late, "0 call exit 0; 0 call exit 0 #2", "0 end 0 time"},
		{late + "; 0 end 0 time", "0 call exit 0; 0 call exit 0 #2", "0 return time"},
		{owns + "; 0 call all 0", "0 call all 0", "0 all 0; 0 return; 0 call all 0"},
		// An Arg that should be 0.
		{"", "0 call enter 0 1; 0 call try 0 1; 0 call exit 0 1; 0 call notify 0 1; 0 call all 0 1; 0 call hash 0 1; 0 call holds 0 1", "0 call holds 0"},
		{"", "0 call enter 0 -1; 0 call try 0 -1; 0 call exit 0 -1; 0 call notify 0 -1; 0 call all 0 -1; 0 call hash 0 -1; 0 call holds 0 -1", "0 call holds 0"},
		// Of Wait it is no number of ticks, of Interrupt no thread.
		{"", "0 call wait 0 -1; 0 call wait 0 -9223372036854775808", "0 call wait 0 9223372036854775807"},
		{"", "0 call interrupt 0 -1; 0 call interrupt 0 3; 0 call interrupt 0 8; 0 call interrupt 0 4294967296", "0 call interrupt 0 2"},
		// The object of an Interrupt.
		{"", "0 call interrupt 2 0; 0 call interrupt -1 0; 0 call interrupt 8 0; 0 call interrupt 4294967296 0", "0 call interrupt 1 0"},
		{"", "0 call interrupt 1 3; 0 call interrupt 1 -1; 0 call interrupt 2 2", "0 call interrupt 1 2"},
		// Objects and threads that there are not, and no kind.
		{"", "0 call enter 2; 0 call enter -1; 0 call holds 8; 0 call wait 2 1; 0 call hash 4294967296", "0 call enter 1"},
		{"", "3 call enter 0; -1 call enter 0; 8 call enter 0; 4294967296 call enter 0", "2 call enter 0"},
		{"", "0 call none 0; 1 call none 0", "0 call enter 0"},
	} {
		refuses(t, x.ahead, x.wrong, x.then)
	}
}

// P15.1: commits that may not be.
func TestCommitsThatMayNotBe(t *testing.T) {
	for _, x := range []struct{ ahead, wrong, then string }{
		// One who did not call.
		{"", "0 enter 0; 0 try 0; 0 exit 0 state; 0 begin 0 state; 0 notify 0 -1 state; 0 all 0 state; 0 hash 0 1; 0 holds 0; 0 interrupt 0 0", "0 call enter 0"},
		{owns, "0 enter 0; 0 exit 0; 0 begin 0; 0 notify 0 -1; 0 all 0; 0 holds 0 1; 1 enter 0 out", "0 call exit 0"},
		{"0 call enter 0", "1 enter 0; 2 enter 0", "0 enter 0"},
		{waits + one, "1 wake 0 0; 1 exit 0", "1 call exit 0; 1 exit 0"},
		// Another kind than the operation's.
		{"0 call enter 0", "0 try 0; 0 exit 0 state; 0 begin 0 state; 0 hash 0 1; 0 holds 0; 0 interrupt 0 0; 0 none 0", "0 enter 0"},
		{owns + "; 0 call enter 0", "0 try 0; 0 exit 0; 0 begin 0; 0 notify 0 -1; 0 all 0; 0 hash 0 1; 0 holds 0 1; 0 interrupt 0 0", "0 enter 0"},
		{"0 call try 0", "0 enter 0; 0 holds 0", "0 try 0"},
		{owns + "; 0 call exit 0", "0 enter 0; 0 begin 0; 0 all 0; 0 holds 0 1", "0 exit 0"},
		{owns + "; 0 call wait 0", "0 enter 0; 0 exit 0; 0 all 0; 0 notify 0 -1; 0 leave 0 time; 0 end 0 time; 0 end 0", "0 begin 0"},
		{owns + "; 0 call notify 0", "0 all 0; 0 begin 0; 0 exit 0; 0 holds 0 1", "0 notify 0 -1"},
		{owns + "; 0 call all 0", "0 notify 0 -1; 0 begin 0; 0 exit 0; 0 holds 0 1", "0 all 0"},
		{"0 call hash 0", "0 holds 0; 0 enter 0; 0 interrupt 0 0", "0 hash 0 1"},
		{"0 call holds 0", "0 hash 0 1; 0 enter 0; 0 interrupt 0 0", "0 holds 0"},
		{"0 call interrupt 0 0", "0 hash 0 1; 0 enter 0; 0 holds 0", "0 interrupt 0 0"},
		// Another object than the operation's.
		{"0 call enter 0", "0 enter 1", "0 enter 0"},
		{"0 call enter 1", "0 enter 0", "0 enter 1"},
		{"0 call try 1", "0 try 0", "0 try 1"},
		{"0 call exit 1", "0 exit 0 state", "0 exit 1 state"},
		{"0 call wait 1", "0 begin 0 state", "0 begin 1 state"},
		{"0 call notify 1", "0 notify 0 -1 state", "0 notify 1 -1 state"},
		{"0 call all 1", "0 all 0 state", "0 all 1 state"},
		{"0 call hash 1", "0 hash 0 1", "0 hash 1 1"},
		{"0 call holds 1", "0 holds 0", "0 holds 1"},
		{waits + one + "; 1 call enter 1; 1 enter 1; 1 return; 1 call all 1", "1 wake 0 0", "1 all 1"},
		{waits + one + "; 1 call enter 1; 1 enter 1; 1 return; 1 call notify 1", "1 wake 0 0", "1 notify 1 -1"},
		// The object of an Interrupt, and its thread.
		{"0 call interrupt 0 1", "0 interrupt 1 1; 0 interrupt 0 0; 0 interrupt 0 2; 0 interrupt 0 -1; 0 interrupt 0 3", "0 interrupt 0 1"},
		{"0 call interrupt 1 0", "0 interrupt 1 0; 0 interrupt 1 1; 0 interrupt 0 1; 0 interrupt 0 -1; 0 interrupt 2 0; 0 interrupt -1 0", "0 interrupt 0 0"},
		// Two of an operation that may have just one.
		{"0 call enter 0; 0 enter 0", "0 enter 0", "0 return"},
		{"0 call try 0; 0 try 0", "0 try 0", "0 return"},
		{owns + "; 0 call exit 0; 0 exit 0", "0 exit 0; 0 exit 0 state", "0 return"},
		{"0 call wait 0; 0 begin 0 state", "0 begin 0 state; 0 leave 0 time; 0 end 0", "0 return state"},
		{owns + "; 0 call wait 0; 0 begin 0 out", "0 begin 0 out; 0 begin 0; 0 end 0", "0 return out"},
		{owns + flag + "; 0 call wait 0; 0 begin 0 intr", "0 begin 0; 0 begin 0 out; 0 end 0 intr", "0 return intr"},
		{owns + "; 0 call notify 0; 0 notify 0 -1", "0 notify 0 -1", "0 return -1"},
		{owns + "; 0 call all 0; 0 all 0", "0 all 0", "0 return"},
		{"0 call hash 0; 0 hash 0 1", "0 hash 0 1", "0 return 1"},
		{"0 call holds 0; 0 holds 0", "0 holds 0", "0 return"},
		{"0 call interrupt 0 0; 0 interrupt 0 0", "0 interrupt 0 0", "0 return"},
		// One who waits, and one who left.
		{waits, "0 begin 0; 0 begin 0 state; 0 end 0; 0 end 0 time; 0 end 0 intr; 0 leave 0 intr; 0 leave 0; 0 leave 1 time", "0 leave 0 time; 0 end 0 time"},
		{late, "0 leave 0 time; 0 leave 0 intr; 0 end 0; 0 end 0 intr; 0 begin 0", "0 end 0 time"},
		{late + "; 0 end 0 time", "0 end 0 time; 0 end 0; 0 begin 0; 0 leave 0 time", "0 return time"},
		{late + one, "0 end 0 time", "1 call exit 0; 1 exit 0; 0 end 0 time"},
		// An End, and a Leave, by one whose operation is no Wait.
		{owns + "; 0 call exit 0", "0 end 0; 0 end 0 time; 0 leave 0 time; 0 leave 0 intr", "0 exit 0"},
		{waits + "; 1 call enter 0", "1 end 0; 1 leave 0 time", "1 enter 0"},
		// Wakes.
		{two + one + "; 1 call notify 0; 1 wake 0 0", "1 wake 0 2; 1 wake 0 0; 1 wake 0 1", "1 notify 0 0"},
		{waits + one + "; 1 call exit 0", "1 wake 0 0", "1 exit 0"},
		{waits + one + "; 1 call wait 0", "1 wake 0 0", "1 begin 0"},
		{waits + one + "; 1 call enter 0", "1 wake 0 0", "1 enter 0"},
		{waits + one + "; 1 call holds 0", "1 wake 0 0", "1 holds 0 1"},
		{waits + one + "; 1 call hash 0", "1 wake 0 0", "1 hash 0 1"},
		{waits + one + "; 1 call interrupt 0 0", "1 wake 0 0", "1 interrupt 0 0"},
		{waits + one + "; 1 call notify 0", "1 wake 0 1; 1 wake 0 2; 1 wake 0 -1; 2 wake 0 0", "1 wake 0 0"},
		{two + one + "; 1 call notify 0; 1 wake 0 0; 1 notify 0 0", "1 wake 0 2", "1 return 0"},
		{two + one + "; 1 call all 0; 1 wake 0 0; 1 wake 0 2; 1 all 0", "1 wake 0 0; 1 wake 0 2", "1 return 2"},
		{waits + "; 1 call notify 0", "1 wake 0 0; 1 notify 0 -1; 1 notify 0 0", "1 notify 0 -1 state"},
		// A Notify that tells another thread than the one that it woke.
		{two + one + "; 1 call notify 0; 1 wake 0 0", "1 notify 0 2; 1 notify 0 1; 1 notify 0 -1; 1 notify 0 -1 state; 1 notify 0 0 state", "1 notify 0 0"},
		{two + one + "; 1 call notify 0; 1 wake 0 2", "1 notify 0 0; 1 notify 0 1; 1 notify 0 -1", "1 notify 0 2"},
		{waits + one + "; 1 call notify 0; 1 wake 0 0", "1 notify 0 -1; 1 notify 0 1; 1 notify 0 2", "1 notify 0 0"},
		{owns + "; 0 call notify 0", "0 notify 0 0; 0 notify 0 1; 0 notify 0 2", "0 notify 0 -1"},
		{two + one + "; 1 call notify 0; 1 wake 0 0; 1 notify 0 0; 1 return; 1 call notify 0", "1 notify 0 0; 1 notify 0 2; 1 notify 0 -1", "1 wake 0 2; 1 notify 0 2"},
		{waits + one + "; 1 call notify 0; 1 wake 0 0; 1 notify 0 0; 1 return; 1 call notify 0", "1 notify 0 0", "1 notify 0 -1; 1 return -1"},
		// What the model does not take.
		{owns + "; 1 call enter 0", "1 enter 0; 1 enter 0 over; 1 enter 0 busy; 1 enter 0 state; 1 enter 0 1", "1 enter 0 out"},
		{owns + "; 1 call try 0", "1 try 0; 1 try 0 over; 1 try 0 out", "1 try 0 busy"},
		{twice + "; 0 call enter 0", "0 enter 0; 0 enter 0 out", "0 enter 0 over"},
		{"0 call exit 0", "0 exit 0; 0 exit 0 over; 0 exit 0 1 state", "0 exit 0 state"},
		{"0 call wait 0", "0 begin 0; 0 begin 0 intr; 0 begin 0 out; 0 begin 0 time", "0 begin 0 state"},
		{owns + "; 0 call wait 0", "0 begin 0 state; 0 begin 0 intr; 0 begin 0 time", "0 begin 0"},
		{waits + one + "; 1 call all 0", "1 all 0; 1 all 0 state; 1 all 0 1", "1 wake 0 0; 1 all 0"},
		{waits + one + "; 1 call notify 0", "1 notify 0 -1; 1 notify 0 0", "1 wake 0 0; 1 notify 0 0"},
		{"0 call hash 0; 0 hash 0 5; 0 return 5; 1 call hash 0", "1 hash 0 4; 1 hash 0; 1 hash 0 out; 1 hash 0 -1; 1 hash 0 2147483648", "1 hash 0 5"},
		{"0 call holds 0", "0 holds 0 1; 0 holds 0 -1; 0 holds 0 state", "0 holds 0"},
		{"0 call interrupt 0 1", "0 interrupt 0 1 intr; 0 interrupt 0 1 state", "0 interrupt 0 1"},
		// Threads that there are not.
		{"0 call enter 0", "3 enter 0; -1 enter 0; 8 enter 0; 4294967296 enter 0", "0 enter 0"},
	} {
		refuses(t, x.ahead, x.wrong, x.then)
	}
}

// P15.1: Returns that may not be.
func TestReturnsThatMayNotBe(t *testing.T) {
	for _, x := range []struct{ ahead, wrong, then string }{
		// One who did not call, or returned.
		{"", "0 return; 0 return #0; 0 return state #0; 0 return #-1", "0 call enter 0"},
		{owns, "0 return; 0 return #1; 1 return #0; 1 return; 2 return #0", "0 call exit 0"},
		{"0 call enter 0; 0 enter 0", "1 return #0; 2 return #0", "0 return"},
		// One that lacks a commit.
		{"0 call enter 0", "0 return; 0 return out; 0 return over", "0 enter 0; 0 return"},
		{"0 call holds 0", "0 return; 0 return 1", "0 holds 0; 0 return"},
		{"0 call notify 0", "0 return -1; 0 return; 0 return -1 state", "0 notify 0 -1 state; 0 return -1 state"},
		{"0 call all 0", "0 return; 0 return state", "0 all 0 state; 0 return state"},
		{"0 call interrupt 0 1", "0 return; 0 return 1", "0 interrupt 0 1; 0 return"},
		{owns + "; 0 call wait 0", "0 return; 0 return state; 0 return time; 0 return intr; 0 return out", "0 begin 0"},
		{waits, "0 return; 0 return time; 0 return intr; 0 return state", "0 leave 0 time; 0 end 0 time; 0 return time"},
		{late, "0 return; 0 return time; 0 return intr", "0 end 0 time; 0 return time"},
		{waits + one + "; 1 call notify 0; 1 wake 0 0", "1 return; 1 return 0; 1 return -1; 0 return", "1 notify 0 0; 1 return 0"},
		{waits + one + "; 1 call all 0; 1 wake 0 0", "1 return 1; 1 return", "1 all 0; 1 return 1"},
		// Another error than its commit's.
		{"0 call enter 0; 0 enter 0", "0 return out; 0 return over; 0 return state; 0 return arg", "0 return"},
		{owns + "; 1 call enter 0; 1 enter 0 out", "1 return; 1 return over; 1 return busy", "1 return out"},
		{owns + "; 1 call try 0; 1 try 0 busy", "1 return; 1 return out", "1 return busy"},
		{twice + "; 0 call enter 0; 0 enter 0 over", "0 return; 0 return out", "0 return over"},
		{"0 call exit 0; 0 exit 0 state", "0 return; 0 return over", "0 return state"},
		{"0 call wait 0; 0 begin 0 state", "0 return; 0 return time; 0 return intr", "0 return state"},
		{owns + "; 0 call wait 0; 0 begin 0 out", "0 return; 0 return state", "0 return out"},
		{owns + flag + "; 0 call wait 0; 0 begin 0 intr", "0 return; 0 return time", "0 return intr"},
		{late + "; 0 end 0 time", "0 return; 0 return intr; 0 return state", "0 return time"},
		{waits + flag + "; 0 leave 0 intr; 0 end 0 intr", "0 return; 0 return time", "0 return intr"},
		{waits + one + "; 1 call notify 0; 1 wake 0 0; 1 notify 0 0; 1 return" + free + "; 0 end 0", "0 return time; 0 return intr", "0 return"},
		{"0 call notify 0; 0 notify 0 -1 state", "0 return -1; 0 return -1 out", "0 return -1 state"},
		{"0 call all 0; 0 all 0 state", "0 return", "0 return state"},
		{owns + "; 1 call hash 0; 1 hash 0 out", "1 return; 1 return state", "1 return out"},
		// Another number than its commit's.
		{"0 call enter 0; 0 enter 0", "0 return 1; 0 return -1", "0 return"},
		{"0 call try 0; 0 try 0", "0 return 1; 0 return -1", "0 return"},
		{owns + "; 0 call exit 0; 0 exit 0", "0 return 1; 0 return -1", "0 return"},
		{late + "; 0 end 0 time", "0 return 1 time; 0 return 5 time; 0 return -1 time", "0 return time"},
		{"0 call hash 0; 0 hash 0 5", "0 return 4; 0 return; 0 return 1; 0 return -5; 0 return -1", "0 return 5"},
		{"0 call holds 0; 0 holds 0", "0 return 1; 0 return -1", "0 return"},
		{owns + "; 0 call holds 0; 0 holds 0 1", "0 return; 0 return 2; 0 return -1", "0 return 1"},
		{owns + "; 0 call notify 0; 0 notify 0 -1", "0 return; 0 return 1; 0 return 2; 0 return -2", "0 return -1"},
		{two + one + "; 1 call notify 0; 1 wake 0 2; 1 notify 0 2", "1 return; 1 return 1; 1 return -1", "1 return 2"},
		{two + one + "; 1 call notify 0; 1 wake 0 0; 1 notify 0 0", "1 return 1; 1 return 2; 1 return -1", "1 return 0"},
		{"0 call interrupt 0 2; 0 interrupt 0 2", "0 return 2; 0 return 1; 0 return -1", "0 return"},
		// An All that tells another number than it woke.
		{owns + "; 0 call all 0; 0 all 0", "0 return 1; 0 return -1; 0 return 2", "0 return"},
		{waits + one + "; 1 call all 0; 1 wake 0 0; 1 all 0", "1 return; 1 return 2; 1 return -1", "1 return 1"},
		{two + one + "; 1 call all 0; 1 wake 0 2; 1 wake 0 0; 1 all 0", "1 return; 1 return 1; 1 return 3", "1 return 2"},
		{two + one + "; 1 call all 0; 1 wake 0 2; 1 wake 0 0; 1 all 0; 1 return 2; 1 call all 0; 1 all 0", "1 return 2; 1 return 1", "1 return 0"},
		// With an error other than OK a number other than 0, of Notify than -1.
		{owns + "; 1 call enter 0; 1 enter 0 out", "1 return 1 out; 1 return -1 out", "1 return out"},
		{"0 call exit 0; 0 exit 0 state", "0 return 1 state; 0 return -1 state", "0 return state"},
		{"0 call wait 0; 0 begin 0 state", "0 return 1 state; 0 return -1 state", "0 return state"},
		{"0 call hash 0; 0 hash 0 5; 0 return 5" + one + "; 0 call hash 0; 0 hash 0 out", "0 return 5 out; 0 return 1 out; 0 return -1 out", "0 return out"},
		{"0 call all 0; 0 all 0 state", "0 return 1 state; 0 return -1 state", "0 return state"},
		{"0 call notify 0; 0 notify 0 -1 state", "0 return state; 0 return 1 state; 0 return -2 state", "0 return -1 state"},
		// Another operation's number.
		{"0 call enter 0; 0 enter 0", "0 return #1; 0 return #-1", "0 return #0"},
		{owns + "; 0 call exit 0; 0 exit 0", "0 return #0; 0 return #2; 0 return #-1", "0 return #1"},
		{twice + "; 1 call enter 0; 1 enter 0 out", "1 return out #2; 1 return out #1; 1 return out #-1", "1 return out #0"},
		// Threads that there are not.
		{"0 call enter 0; 0 enter 0", "3 return #0; -1 return #0; 8 return #0; 4294967296 return #0", "0 return"},
	} {
		refuses(t, x.ahead, x.wrong, x.then)
	}
}

// P15.1: entries of kinds that are none, whatever else they have.
func TestKindsThatAreNone(t *testing.T) {
	for _, kind := range []int{0, -1, 4, 5, 1 << 32, 1<<32 + 1, math.MaxInt, math.MinInt} {
		for _, ahead := range []string{"", "0 call enter 0", "0 call enter 0; 0 enter 0", owns} {
			right := entries(t, ahead)
			log := small.log(t, right)
			for _, e := range []ghost.Entry{
				{}, entry(t, right, "0 call enter 0"), entry(t, right, "0 enter 0"), entry(t, right, "0 return"),
			} {
				e.Kind = kind
				if err := log.Add(e); err != api.ErrBroken {
					t.Errorf("%q: Add of %s is %d", ahead, line(e), err)
				}
			}
			small.shows(t, log, right)
		}
	}
}

// P15.1: in each kind of entry, fields that are of another kind and should be 0, and
// a Thread that is not the Event's: nothing is taken that has one.
func TestFieldsThatShouldBeNothing(t *testing.T) {
	fields := map[string]func(e *ghost.Entry){
		"number": func(e *ghost.Entry) { e.Number = 1 },
		"op":     func(e *ghost.Entry) { e.Op.Kind = enter },
		"obj":    func(e *ghost.Entry) { e.Op.Obj = 1 },
		"arg":    func(e *ghost.Entry) { e.Op.Arg = 1 },
		"event":  func(e *ghost.Entry) { e.Event.Kind = model.Enter },
		"of":     func(e *ghost.Entry) { e.Event.Thread = 1 },
		"at":     func(e *ghost.Entry) { e.Event.Obj = 1 },
		"with":   func(e *ghost.Entry) { e.Event.Arg = 1 },
		"tells":  func(e *ghost.Entry) { e.Event.Err = api.ErrOut },
		"value":  func(e *ghost.Entry) { e.Value = 1 },
		"err":    func(e *ghost.Entry) { e.Err = api.ErrOut },
		"thread": func(e *ghost.Entry) { e.Thread = 1 },
	}
	for _, x := range []struct{ ahead, text, nothing string }{
		{"", "0 call hash 0", "event of at with tells value err"},
		{"0 call hash 0", "0 hash 0 4", "number op obj arg of value err thread"},
		{"0 call hash 0; 0 hash 0 4", "0 return 4", "op obj arg event of at with tells thread"},
		{"1 call hash 0", "0 call hash 0", "event of at with tells value err thread"},
		{"1 call hash 0; 0 call hash 0", "0 hash 0 4", "number op obj arg of value err thread"},
		{"1 call hash 0; 0 call hash 0; 0 hash 0 4; 1 hash 0 4", "0 return 4", "op obj arg event of at with tells"},
	} {
		right := entries(t, x.ahead)
		log := small.log(t, right)
		for _, name := range strings.Fields(x.nothing) {
			e := entry(t, right, x.text)
			fields[name](&e)
			if err := log.Add(e); err != api.ErrBroken {
				t.Errorf("%q: Add of %s is %d", x.ahead, line(e), err)
			}
			small.shows(t, log, right)
		}
		if err := log.Add(entry(t, right, x.text)); err != api.OK {
			t.Errorf("%q: Add of %q is %d", x.ahead, x.text, err)
		}
	}
}
