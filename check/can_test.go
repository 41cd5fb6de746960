package check_test

import (
	"slices"
	"testing"

	"futtock/check"
)

// scene are calls, and the first order in which they can have been.
type scene struct {
	name  string
	calls string
	want  []int
}

// no is what is wanted of calls that cannot have been.
var no []int

// shows tells if Can and Order of the calls are not as is wanted.
func (x scene) shows(t *testing.T, w world) {
	t.Helper()
	l := calls(t, x.calls)
	ok, order := told(t, w, l)
	if ok != (x.want != nil) || !slices.Equal(order, x.want) {
		t.Errorf("%s: %q: Can is %v, Order %v, not %v", x.name, x.calls, ok, order, x.want)
	}
}

// P23.1: calls that can have been, and such as cannot, with the first order by places:
// of two threads and two objects, owned twice at most.
func TestScenes(t *testing.T) {
	for _, x := range []scene{
		{"none", "", []int{}},
		{"one", "0 enter 0 3..4", []int{0}},
		{"one that cannot", "0 exit 0 3..4", no},
		{"one behind the other", "0 enter 0 0..1; 0 exit 0 2..3; 1 enter 0 4..5; 1 exit 0 6..7", []int{0, 1, 2, 3}},
		{"handed in from the last one on", "1 exit 0 6..7; 1 enter 0 4..5; 0 exit 0 2..3; 0 enter 0 0..1", []int{3, 2, 1, 0}},
		{"one behind the other, the other way", "0 exit 0 0..1; 0 enter 0 2..3", no},
		{"the example", "0 enter 0 0..9; 1 enter 0 0..9", no},
		{"the example, with one who leaves", "0 enter 0 0..9; 1 enter 0 0..9; 0 exit 0 0..9", []int{0, 2, 1}},
		{"who leaves begins too late", "0 enter 0 0..9; 1 enter 0 0..3; 0 exit 0 4..9", no},
		{"just one order", "0 try 0 busy 0..9; 1 exit 0 0..9; 1 enter 0 0..9", []int{2, 0, 1}},
		{"several orders, the first one by places", "0 hash 0 #5 0..9; 1 hash 0 #5 0..9; 0 hash 1 #6 0..9", []int{0, 1, 2}},
		{"several orders, where the first place may not be first", "1 exit 0 0..9; 0 hash 0 #5 0..9; 1 enter 0 0..9", []int{1, 2, 0}},
		{"several orders, of which the times refuse the first one", "0 hash 0 #5 5..9; 1 hash 0 #5 0..9; 0 hash 1 #6 0..4", []int{1, 2, 0}},
		{"a first one that leads nowhere", "1 enter 0 0..9; 0 try 0 0..9; 0 exit 0 0..9; 0 holds 0 #0 0..9; 1 hash 0 #1 0..9", []int{1, 2, 0, 3, 4}},
	} {
		x.shows(t, world{2, 2, 2})
	}
}

// P23.1: each error that the model tells, where it may be told and where it may not.
func TestErrorsThatTheModelTells(t *testing.T) {
	for _, x := range []scene{
		{"out, of one who is another's", "1 enter 0 out 3..4; 0 enter 0 1..2", []int{1, 0}},
		{"out, of one whose own it is", "0 enter 0 1..2; 0 enter 0 out 3..4", no},
		{"out, of one that nobody owns", "0 enter 0 out 3..4", no},
		{"out, behind an exit", "0 enter 0 1..2; 0 exit 0 3..4; 1 enter 0 out 5..6", no},
		{"out, while there is an exit", "0 enter 0 1..2; 0 exit 0 3..6; 1 enter 0 out 5..7", []int{0, 2, 1}},
		{"out, at another object", "0 enter 0 1..2; 1 enter 1 out 3..4", no},
		{"out, of a try", "0 enter 0 1..2; 1 try 0 out 3..4", no},
		{"busy, of one who is another's", "0 try 0 1..2; 1 try 0 busy 3..4", []int{0, 1}},
		{"busy, of one whose own it is", "0 enter 0 1..2; 0 try 0 busy 3..4", no},
		{"busy, of one that nobody owns", "1 try 0 busy 3..4", no},
		{"busy, of an enter", "0 enter 0 1..2; 1 enter 0 busy 3..4", no},
		{"over, at the greatest count", "0 enter 0 1..2; 0 try 0 3..4; 0 enter 0 over 5..6; 0 try 0 over 7..8", []int{0, 1, 2, 3}},
		{"over, below it", "0 enter 0 1..2; 0 enter 0 over 5..6", no},
		{"over, of one who is another's", "0 enter 0 1..2; 0 enter 0 3..4; 1 enter 0 over 5..6", no},
		{"over, behind an exit", "0 enter 0 1..2; 0 enter 0 1..2; 0 exit 0 3..4; 0 try 0 over 5..6", no},
		{"ok, above the greatest count", "0 enter 0 1..2; 0 enter 0 3..4; 0 enter 0 5..6", no},
		{"ok, above it, but for an exit between", "0 enter 0 1..9; 0 enter 0 1..9; 0 enter 0 1..9; 0 exit 0 1..9", []int{0, 1, 3, 2}},
		{"state, of exit", "1 enter 0 1..2; 0 exit 0 state 3..4", []int{0, 1}},
		{"state, of exit by the owner", "0 enter 0 1..2; 0 exit 0 state 3..4", no},
		{"exit as often as entered", "0 enter 0 1..2; 0 enter 0 1..2; 0 exit 0 3..4; 0 exit 0 5..6; 0 exit 0 state 7..8", []int{0, 1, 2, 3, 4}},
		{"exit once too often", "0 enter 0 1..2; 0 exit 0 3..4; 0 exit 0 5..6", no},
		{"exit of another's", "0 enter 0 1..2; 1 exit 0 3..4", no},
		{"all", "0 enter 0 1..2; 0 all 0 3..4; 1 all 0 state 5..6", []int{0, 1, 2}},
		{"all, of nobody's", "0 all 0 3..4", no},
		{"all, state of the owner", "0 enter 0 1..2; 0 all 0 state 3..4", no},
		{"notify", "0 enter 0 1..2; 0 notify 0 3..4; 1 notify 0 state 5..6", []int{0, 1, 2}},
		{"notify, of another's", "0 enter 0 1..2; 1 notify 0 3..4", no},
		{"notify, state of the owner", "0 enter 0 1..2; 0 notify 0 state 3..4", no},
		{"holds", "0 holds 0 #0 1..2; 0 enter 0 3..4; 0 holds 0 #1 5..6; 1 holds 0 #0 7..8; 0 holds 1 #0 9..10", []int{0, 1, 2, 3, 4}},
		{"holds, of nobody's", "0 holds 0 #1 1..2", no},
		{"holds not, of one's own", "0 enter 0 1..2; 0 holds 0 #0 3..4", no},
		{"holds, of another's", "0 enter 0 1..2; 1 holds 0 #1 3..4", no},
		{"holds of a number", "0 enter 0 1..2; 0 holds 0 #2 3..4", no},
		{"holds with an error", "0 holds 0 #0 state 3..4", no},
		{"hashes", "0 hash 0 #7 1..2; 1 hash 0 #7 3..4; 1 hash 1 #1 5..6; 0 hash 1 #1 7..8", []int{0, 1, 2, 3}},
		{"another hash", "0 hash 0 #7 1..2; 1 hash 0 #8 3..4", no},
		{"another hash at the same time", "0 hash 0 #7 1..9; 1 hash 0 #8 1..9", no},
		{"the least hash and the greatest one", "0 hash 0 #1 1..2; 1 hash 1 #2147483647 3..4", []int{0, 1}},
		{"a hash of 0", "0 hash 0 #0 1..2", no},
		{"a hash below", "0 hash 0 #-1 1..2", no},
		{"a hash above", "0 hash 0 #2147483648 1..2", no},
		{"a hash of what is owned", "0 enter 0 1..2; 1 hash 0 #7 3..4; 0 hash 0 #7 3..4", []int{0, 1, 2}},
		{"interrupts", "0 interrupt 0 #1 1..2; 0 interrupt 0 #0 1..2; 1 interrupt 1 #0 0..1", []int{0, 1, 2}},
		{"interrupts of no threads", "0 interrupt 0 #2 1..2", no},
		{"interrupt of nobody", "0 interrupt 0 #-1 1..2", no},
		{"interrupt with an error", "0 interrupt 0 #1 intr 1..2", no},
		{"an Arg of an enter", "0 enter 0 #1 1..2", no},
		{"an Arg of an exit", "0 enter 0 1..2; 0 exit 0 #1 3..4", no},
		{"an Arg of an all", "0 all 0 #-1 state 3..4", no},
		{"errors that none tells", "0 enter 0 intr 1..2", no},
		{"errors that none tells, of an exit", "0 exit 0 time 1..2", no},
	} {
		x.shows(t, world{2, 2, 2})
	}
}

// P23.1: calls that touch may stand either way; those that are apart by one may not.
func TestCallsThatTouch(t *testing.T) {
	for _, x := range []scene{
		{"touching, as they are", "0 enter 0 1..5; 0 exit 0 5..9", []int{0, 1}},
		{"touching, the other way", "0 exit 0 1..5; 0 enter 0 5..9", []int{1, 0}},
		{"touching, both ways", "0 hash 0 #7 5..9; 1 hash 0 #7 1..5", []int{0, 1}},
		{"apart", "0 exit 0 1..4; 0 enter 0 5..9", no},
		{"apart, one way alone", "0 hash 0 #7 5..9; 1 hash 0 #7 1..4", []int{1, 0}},
		{"overlapping by one", "0 exit 0 1..6; 0 enter 0 5..9", []int{1, 0}},
		{"three that touch in a row", "0 exit 0 1..2; 0 try 0 over 2..3; 0 enter 0 3..4", no},
		{"three, of which the middle one touches both", "0 hash 0 #7 3..4; 0 hash 0 #7 2..3; 0 hash 0 #7 1..2", []int{1, 2, 0}},
		{"below 0", "0 exit 0 -5..-1; 0 enter 0 -1..0", []int{1, 0}},
		{"below 0, apart", "0 exit 0 -5..-2; 0 enter 0 -1..0", no},
		{"a time within another one", "0 enter 0 0..9; 0 exit 0 4..5; 1 holds 0 #0 6..7; 1 enter 0 8..9", []int{0, 1, 2, 3}},
	} {
		x.shows(t, world{2, 2, 1})
	}
}

// P23.1: calls that are handed in in any order can have been as often, by the same
// times; and the first order by places is one of those that are taken.
func TestHandedInInAnyOrder(t *testing.T) {
	for _, x := range []struct {
		text string
		want bool
	}{
		{"0 enter 0 0..4; 1 enter 0 out 2..3; 0 exit 0 5..9; 1 enter 0 6..8; 1 exit 0 9..12", true},
		{"0 enter 0 0..4; 1 enter 0 out 5..6; 0 exit 0 5..9; 1 enter 0 7..8; 0 holds 0 #1 9..10", false},
	} {
		l := calls(t, x.text)
		for places := []int{0, 1, 2, 3, 4}; ; {
			some := at(l, places)
			if can(t, world{2, 1, 1}, some) != x.want {
				t.Fatalf("%s is %v", texts(some), !x.want)
			}
			want, _ := world{2, 1, 1}.first(some)
			if _, order := told(t, world{2, 1, 1}, some); !slices.Equal(order, want) {
				t.Fatalf("the order of %s is %v, not %v", texts(some), order, want)
			}
			if !goOn(places) {
				break
			}
		}
	}
}

// P23.1: the same call twice is two calls.
func TestTheSameCallTwice(t *testing.T) {
	for _, x := range []scene{
		{"enters", "0 enter 0 1..2; 0 enter 0 1..2", []int{0, 1}},
		{"three enters", "0 enter 0 1..2; 0 enter 0 1..2; 0 enter 0 1..2", no},
		{"exits", "0 enter 0 1..2; 0 exit 0 1..2; 0 exit 0 1..2", no},
		{"exits of as many enters", "0 exit 0 1..2; 0 enter 0 1..2; 0 exit 0 1..2; 0 enter 0 1..2", []int{1, 0, 3, 2}},
		{"hashes", "0 hash 0 #9 1..2; 0 hash 0 #9 1..2; 0 hash 0 #9 1..2", []int{0, 1, 2}},
		{"interrupts", "0 interrupt 0 #0 1..2; 0 interrupt 0 #0 1..2", []int{0, 1}},
		{"exits that are refused", "0 exit 0 state 1..2; 0 exit 0 state 1..2", []int{0, 1}},
	} {
		x.shows(t, world{1, 1, 2})
	}
}

// P23.1: what calls can have been hangs on the numbers of the model.
func TestOtherModels(t *testing.T) {
	l := calls(t, "1 enter 1 1..2; 1 enter 1 3..4")
	for _, x := range []struct {
		w    world
		want bool
	}{
		{world{2, 2, 2}, true}, {greatest, true}, {world{2, 2, 60}, true}, {world{3, 2, 2}, true},
		{world{2, 2, 1}, false}, {world{1, 2, 2}, false}, {world{2, 1, 2}, false}, {world{8, 8, 1}, false},
	} {
		if can(t, x.w, l) != x.want {
			t.Errorf("%+v: Can is %v", x.w, !x.want)
		}
	}
}

// P23.1: sets that were come to by several orders lead on in the same way: what is
// found dead behind one is so behind another one, and nothing else is.
func TestSetsByManyOrders(t *testing.T) {
	free := "0 interrupt 0 #1 0..9; 1 interrupt 0 #0 0..9; 0 hash 1 #7 0..9; 1 hash 1 #7 0..9; "
	for _, x := range []scene{
		{"no order", free + "0 exit 0 0..9", no},
		{"no order, as the times refuse it", free + "0 exit 0 0..4; 0 enter 0 5..9", no},
		{"one from the last one on", "0 exit 0 0..9; 0 holds 0 #1 0..9; 0 all 0 0..9; 0 notify 0 0..9; 0 enter 0 0..9", []int{4, 1, 2, 3, 0}},
		{"one behind all others", free + "0 enter 0 0..9; 1 try 0 0..9; 1 exit 0 0..9; 0 try 0 0..9", []int{0, 1, 2, 3, 5, 6, 4, 7}},
	} {
		x.shows(t, world{2, 2, 2})
	}
}

// Example 1 of the chapter: two Enters of one object by two threads that are OK.
func TestExampleOfTheChapter(t *testing.T) {
	a, b := calls(t, "0 enter 0 0..9"), calls(t, "1 enter 0 0..9")
	if can(t, world{2, 1, 1}, []check.Call{a[0], b[0]}) {
		t.Error("two can have been")
	}
	if !can(t, world{2, 1, 1}, a) || !can(t, world{2, 1, 1}, b) {
		t.Error("one of them alone cannot have been")
	}
}
