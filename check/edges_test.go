package check_test

import (
	"fmt"
	"math"
	"slices"
	"strings"
	"testing"

	"futtock/check"
)

// every are the places from 0 on.
func every(many int) []int {
	var l []int
	for i := range many {
		l = append(l, i)
	}
	return l
}

// P23.1: twelve calls, all at the same time: in the order in which they stand, in the
// one from the last one on, and in no order.
func TestTwelveAtTheSameTime(t *testing.T) {
	for _, x := range []scene{
		{"as they stand", "0 enter 0 0..1; 0 holds 0 #1 0..1; 1 try 0 busy 0..1; 1 enter 0 out 0..1; 0 all 0 0..1; 0 notify 0 0..1;" +
			"1 exit 0 state 0..1; 0 enter 0 0..1; 0 enter 0 over 0..1; 0 exit 0 0..1; 0 exit 0 0..1; 1 hash 0 #3 0..1", every(12)},
		{"enters and exits by turns", strings.Repeat("0 exit 0 0..1; 0 enter 0 0..1;", 6), []int{1, 0, 3, 2, 5, 4, 7, 6, 9, 8, 11, 10}},
		{"twelve that are the same", strings.Repeat("1 interrupt 1 #1 0..1;", 12), every(12)},
		{"eleven, and one that is not taken", strings.Repeat("1 interrupt 1 #1 0..1;", 11) + "0 exit 0 0..1", no},
		{"one that is not taken, and eleven", "0 exit 0 0..1;" + strings.Repeat("1 interrupt 1 #1 0..1;", 11), no},
		{"one enter too many", strings.Repeat("0 enter 0 0..1; 1 enter 0 0..1;", 4) + strings.Repeat("0 exit 0 0..1; 1 exit 0 0..1;", 2), no},
		{"two hashes", strings.Repeat("0 hash 0 #7 0..1;", 11) + "1 hash 0 #8 0..1", no},
	} {
		x.shows(t, world{2, 2, 2})
	}
}

// P23.1: twelve calls of which the first place comes last.
func TestTwelveFromTheLastOneOn(t *testing.T) {
	l := calls(t, strings.Repeat("0 exit 0 0..1;", 6)+strings.Repeat("0 enter 0 0..1;", 6))
	want := []int{6, 0, 7, 1, 8, 2, 9, 3, 10, 4, 11, 5}
	if ok, order := told(t, world{1, 1, 1}, l); !ok || !slices.Equal(order, want) {
		t.Errorf("with a count of 1 Order is %v, not %v", order, want)
	}
	if ok, order := told(t, world{1, 1, 60}, l); !ok || !slices.Equal(order, want) {
		t.Errorf("with a count of 60 Order is %v, not %v", order, want)
	}
}

// P23.1: twelve calls one behind the other: the times leave just one order.
func TestTwelveInARow(t *testing.T) {
	steps := strings.Split("0 enter 0,1 enter 0 out,0 try 0,0 enter 0 over,0 exit 0,0 holds 0 #1,1 exit 0 state,0 exit 0,1 try 0,0 try 0 busy,1 exit 0,0 enter 0", ",")
	for _, gap := range []int{1, 0} {
		text, back := "", ""
		for i, step := range steps {
			part := fmt.Sprintf("%s %d..%d;", step, (2+gap)*i, (2+gap)*i+2)
			text, back = text+part, part+back
		}
		scene{"as they were", text, every(12)}.shows(t, world{2, 1, 2})
		turned := every(12)
		slices.Reverse(turned)
		if gap == 1 {
			scene{"handed in the other way", back, turned}.shows(t, world{2, 1, 2})
		} else if !can(t, world{2, 1, 2}, calls(t, back)) {
			t.Errorf("%q cannot have been", back)
		}
	}
	scene{"two of them turned", "0 exit 0 0..1;" + strings.Repeat("0 hash 0 #7 2..3;", 10) + "0 enter 0 4..5", no}.shows(t, world{2, 1, 2})
}

// R1: twelve calls of which no order is taken, and of which nearly all sets are come to:
// this ends. (All their orders would be tried for longer than a test may take.)
func TestTwelveEnd(t *testing.T) {
	for _, text := range []string{
		strings.Repeat("0 interrupt 0 #1 0..1;", 11) + "0 exit 0 0..1",
		strings.Repeat("0 hash 0 #7 0..1; 1 hash 1 #8 0..1; 1 interrupt 0 #0 0..1;", 3) + "0 exit 2 state 0..1; 7 holds 7 #0 0..1; 7 holds 7 #1 0..1",
		strings.Repeat("0 enter 0 0..1; 1 enter 1 0..1; 2 enter 2 0..1; 3 enter 3 0..1;", 2) + "4 enter 4 0..1; 5 enter 5 0..1; 6 enter 6 0..1; 7 exit 7 0..1",
	} {
		l := calls(t, text)
		if len(l) != 12 || can(t, greatest, l) {
			t.Errorf("%q can have been", text)
		}
	}
}

// P23.1: the first and the last thread and object, of models of one and of as many of
// each as there may be.
func TestFirstAndLast(t *testing.T) {
	for _, w := range []world{{1, 1, 1}, {1, 8, 1}, {8, 1, 1}, {8, 8, 1}, greatest} {
		for _, thread := range []int{0, w.threads - 1} {
			for _, obj := range []int{0, w.objects - 1} {
				other := w.threads - 1 - thread
				text := fmt.Sprintf("%[1]d enter %[2]d 1..2; %[1]d holds %[2]d #1 3..4; %[1]d all %[2]d 3..4; %[1]d notify %[2]d 3..4; %[1]d exit %[2]d 5..6;"+
					"%[1]d hash %[2]d #9 3..4; %[1]d interrupt %[2]d #%[3]d 3..4; %[3]d try %[2]d 7..8; %[3]d exit %[2]d 9..10; %[1]d exit %[2]d state 11..12", thread, obj, other)
				scene{"first and last", text, []int{0, 1, 2, 3, 5, 6, 4, 7, 8, 9}}.shows(t, w)
				if thread != other {
					scene{"first or last", fmt.Sprintf("%[1]d enter %[2]d 1..2; %[3]d enter %[2]d 1..2", thread, obj, other), no}.shows(t, w)
					scene{"first and last", fmt.Sprintf("%[1]d enter %[2]d 1..2; %[3]d enter %[2]d out 1..2", thread, obj, other), []int{0, 1}}.shows(t, w)
				}
			}
		}
	}
}

// P23.1: all threads at all objects.
func TestAllThreadsAndObjects(t *testing.T) {
	for thread := range 8 {
		text := ""
		for obj := range 8 {
			text += fmt.Sprintf("%d enter %d 0..1;", (thread+obj)%8, obj)
		}
		scene{"each at another one", text, every(8)}.shows(t, world{8, 8, 1})
		scene{"two at one", text + fmt.Sprintf("%d try %d 0..1;", thread, 7), no}.shows(t, world{8, 8, 1})
		scene{"two at one, busy", text + fmt.Sprintf("%d try %d busy 0..1;", thread, 7), every(9)}.shows(t, world{8, 8, 1})
	}
}

// P23.1: a count at its greatest: the one that is as many as may be is OK, the one
// behind it ErrOver.
func TestGreatestCount(t *testing.T) {
	for most := 1; most <= 11; most++ {
		enters := strings.Repeat("0 enter 0 1..2;", most)
		w := world{1, 1, most}
		scene{"as many as may be", enters, every(most)}.shows(t, w)
		scene{"one more", enters + "0 enter 0 3..4", no}.shows(t, w)
		scene{"over", enters + "0 try 0 over 3..4", every(most + 1)}.shows(t, w)
		scene{"over, too early", enters + "0 enter 0 over -1..0", no}.shows(t, w)
		if w.most++; w.most <= 11 {
			scene{"over, where one more may be", enters + "0 enter 0 over 3..4", no}.shows(t, w)
		}
	}
	scene{"the greatest", strings.Repeat("0 enter 0 1..2;", 12), every(12)}.shows(t, greatest)
	scene{"the greatest, over", strings.Repeat("0 enter 0 1..2;", 11) + "0 enter 0 over 1..2", no}.shows(t, greatest)
}

// P23.1: times at the least and the greatest number.
func TestEndsOfTimes(t *testing.T) {
	const least, most = math.MinInt, math.MaxInt
	exit, enter := calls(t, "0 exit 0 0..1")[0], calls(t, "0 enter 0 0..1")[0]
	for _, x := range []struct {
		exit, enter [2]int
		want        bool
	}{
		{[2]int{least, most}, [2]int{least, most}, true},
		{[2]int{least, 0}, [2]int{0, most}, true},
		{[2]int{least, -1}, [2]int{0, most}, false},
		{[2]int{least, least + 1}, [2]int{most - 1, most}, false},
		{[2]int{most - 1, most}, [2]int{least, least + 1}, true},
		{[2]int{least, most - 1}, [2]int{most - 1, most}, true},
		{[2]int{least, most - 2}, [2]int{most - 1, most}, false},
		{[2]int{least, least + 1}, [2]int{least + 1, most}, true},
		{[2]int{least, least + 1}, [2]int{least + 2, most}, false},
		{[2]int{0, 1}, [2]int{least, most}, true},
		{[2]int{least, most}, [2]int{most - 1, most}, true},
		{[2]int{least, least + 1}, [2]int{least, most}, true},
	} {
		exit.From, exit.To = x.exit[0], x.exit[1]
		enter.From, enter.To = x.enter[0], x.enter[1]
		for _, l := range [][]check.Call{{exit, enter}, {enter, exit}} {
			if can(t, world{1, 1, 1}, l) != x.want {
				t.Errorf("%s is %v", texts(l), !x.want)
			}
		}
	}
}
