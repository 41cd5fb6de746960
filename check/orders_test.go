package check_test

import (
	"math"
	"slices"
	"testing"

	"futtock/check"
	"futtock/model"
)

// P23.1: of many drawn calls Can and Order tell what one tells that tries all orders
// one behind the other.
func TestAllOrders(t *testing.T) {
	n := numbers(1)
	none, just, several, turned := 0, 0, 0, 0
	for i := range 30000 {
		many := i % 6
		if i%20 == 0 {
			many = 6 + i/20%2
		}
		w := n.world()
		l := n.calls(w, many)
		want, orders := w.first(l)
		ok, order := told(t, w, l)
		if ok != (orders > 0) || !slices.Equal(order, want) {
			t.Fatalf("%+v: of %s Can is %v, Order %v, not %v (of %d)", w, texts(l), ok, order, want, orders)
		}
		switch {
		case orders == 0:
			none++
		case orders == 1:
			just++
		default:
			several++
		}
		if !slices.IsSorted(want) {
			turned++
		}
	}
	if min(none, just, several, turned) < 2000 {
		t.Errorf("%d could not have been, %d in one order, %d in several; %d first ones do not rise: too few to tell", none, just, several, turned)
	}
}

// P23.1: all lists of three calls out of few, at few times.
func TestAllOfFew(t *testing.T) {
	var few []check.Call
	for _, span := range []string{"0..2", "1..3", "2..4", "3..5"} {
		for _, step := range []string{"0 enter 0", "1 enter 0", "0 exit 0", "1 try 0 busy", "1 hash 0 #5", "0 hash 0 #6", "1 holds 0 #0", "0 holds 0 #1"} {
			few = append(few, calls(t, step+" "+span)...)
		}
	}
	w := world{2, 1, 1}
	can := 0
	for _, a := range few {
		for _, b := range few {
			for _, c := range few {
				l := []check.Call{a, b, c}
				want, orders := w.first(l)
				ok, order := told(t, w, l)
				if ok != (orders > 0) || !slices.Equal(order, want) {
					t.Fatalf("of %s Can is %v, Order %v, not %v", texts(l), ok, order, want)
				}
				if ok {
					can++
				}
			}
		}
	}
	if can < 1000 || can > len(few)*len(few)*len(few)-1000 {
		t.Errorf("%d can have been: too few to tell", can)
	}
}

// P23.1: of up to twelve drawn calls that were so Can is true, and the order is one in
// which they can have been.
func TestPastsCanHaveBeen(t *testing.T) {
	n := numbers(3)
	for range 3000 {
		w := n.world()
		l := n.past(w, n.one(6, 8, 10, 11, 12))
		n.spread(l, n.one(0, 4, 10, 50))
		l = n.shuffled(l)
		ok, order := told(t, w, l)
		if !ok || !isOrder(w, l, order) {
			t.Fatalf("%+v: of %s Can is %v, Order %v", w, texts(l), ok, order)
		}
	}
}

// isOrder tells whether places are an order in which calls can have been.
func isOrder(w world, l []check.Call, places []int) bool {
	if len(places) != len(l) {
		return false
	}
	sorted := slices.Sorted(slices.Values(places))
	some := at(l, places)
	return slices.Equal(sorted, every(len(l))) && inTime(some) && w.takesAll(some)
}

// P23.2: of many drawn calls Serial tells how many are taken as they stand.
func TestSerialOfDrawn(t *testing.T) {
	n := numbers(5)
	whole, part := 0, 0
	for range 20000 {
		w := n.world()
		l := n.past(w, n.one(0, 1, 5, 12, 13, 40))
		for range n.below(3) {
			if len(l) > 0 {
				l = n.spoilt(w, l)
			}
		}
		s, want := slow{world: w}, 0
		for want < len(l) && s.takes(l[want].Event) {
			want++
		}
		takes(t, w, l, want)
		if want == len(l) {
			whole++
		} else if want > 0 {
			part++
		}
	}
	if whole < 1000 || part < 1000 {
		t.Errorf("%d were taken whole, %d in part: too few to tell", whole, part)
	}
}

// P23.3: what Serial takes, by rising times that do not overlap, can have been, in the
// order in which it stands; and with the next one, which Serial does not take, it
// cannot, where no two calls touch.
func TestSerialCanHaveBeen(t *testing.T) {
	n := numbers(7)
	whole, part := 0, 0
	for range 6000 {
		w := n.world()
		l := n.past(w, n.one(1, 2, 3, 6, 11, 12))
		if n.below(2) == 0 {
			l = n.spoilt(w, l)
		}
		n.inARow(l)
		many, all := check.Serial(w.threads, w.objects, w.most, l)
		ok, order := told(t, w, l[:many])
		if !ok || !slices.Equal(order, every(many)) || all != (many == len(l)) {
			t.Fatalf("%+v: of %d of %s Can is %v, Order %v", w, many, texts(l), ok, order)
		}
		if whole++; !all {
			whole, part = whole-1, part+1
			for i := range l {
				l[i].From, l[i].To = 3*i, 3*i+2
			}
			if can(t, w, l[:many+1]) || can(t, w, l) {
				t.Fatalf("%+v: %s can have been", w, texts(l))
			}
		}
	}
	if whole < 1000 || part < 1000 {
		t.Errorf("%d were taken whole, %d in part: too few to tell", whole, part)
	}
}

// P23.4: of calls that can have been each beginning of the order that was told can, in
// the order in which it was told.
func TestBeginningsCanHaveBeen(t *testing.T) {
	n := numbers(11)
	for range 3000 {
		w := n.world()
		l := n.past(w, n.one(1, 4, 8, 12))
		n.spread(l, n.one(0, 4, 10, 50))
		l = n.shuffled(l)
		_, order := told(t, w, l)
		for many := range len(order) + 1 {
			// Those of the beginning stand as they were handed in: the order that is
			// told of them is the first one still.
			places := slices.Sorted(slices.Values(order[:many]))
			ok, those := told(t, w, at(l, places))
			if !ok || !isOrder(w, at(l, places), those) {
				t.Fatalf("%+v: of the first %d in %v of %s Can is %v, Order %v", w, many, order, texts(l), ok, those)
			}
			if first := at(l, order[:many]); !can(t, w, first) || !isOrder(w, first, every(many)) {
				t.Fatalf("%+v: of the first %d in %v of %s Can is false", w, many, order, texts(l))
			}
		}
	}
}

// over are those calls that were over ahead of a time, and whether the others had not
// begun by then.
func over(l []check.Call, time int) (some []check.Call, alone bool) {
	alone = true
	for _, c := range l {
		if c.To < time {
			some = append(some, c)
		} else if c.From < time {
			alone = false
		}
	}
	return some, alone
}

// P23.4: of calls that can have been, those that were over ahead of some time can, too,
// if the others had not begun by then.
func TestThoseThatWereOver(t *testing.T) {
	n := numbers(13)
	met := 0
	for range 3000 {
		w := n.world()
		l := n.past(w, n.one(2, 5, 9, 12))
		n.spread(l, n.one(0, 1, 3, 6))
		l = n.shuffled(l)
		for time := -8; time < 60; time++ {
			some, alone := over(l, time)
			if !alone {
				continue
			}
			if len(some) > 0 && len(some) < len(l) {
				met++
			}
			if !can(t, w, some) {
				t.Fatalf("%+v: ahead of %d %s cannot have been, of %s", w, time, texts(some), texts(l))
			}
		}
		if all, alone := over(l, math.MaxInt); !alone || !can(t, w, all) {
			t.Fatalf("%+v: %s cannot have been", w, texts(all))
		}
	}
	if met < 10000 {
		t.Errorf("%d times some were over: too few to tell", met)
	}
}

// P23.1, P23.4: one that was over may have been told of by another one that was under
// way still: without that one it cannot have been, as no order takes it alone.
func TestWhatWasUnderWayCounts(t *testing.T) {
	scene{"with the one under way", "0 enter 0 0..9; 1 enter 0 out 1..2", []int{0, 1}}.shows(t, world{2, 1, 1})
	scene{"without it", "1 enter 0 out 1..2", no}.shows(t, world{2, 1, 1})
}

// leaves tells whether a call lets a thread own an object once less.
func leaves(c check.Call, thread, obj int) bool {
	return c.Event == model.Event{Kind: model.Exit, Thread: thread, Obj: obj}
}

// P23.5: two threads that each entered an object, and did not leave it, cannot have
// been, whatever stands beside.
func TestTwoWhoEnteredAndDidNotLeave(t *testing.T) {
	n := numbers(17)
	alone := 0
	for range 6000 {
		w := world{n.one(2, 3, 8), n.one(1, 2, 8), n.one(1, 2, 60)}
		obj, a := n.below(w.objects), n.below(w.threads)
		b := (a + 1 + n.below(w.threads-1)) % w.threads
		beside := slices.DeleteFunc(n.calls(w, n.below(11)), func(c check.Call) bool { return leaves(c, a, obj) || leaves(c, b, obj) })
		l := beside
		for _, thread := range []int{a, b} {
			from := n.one(-50, 0, 5, 20, 60)
			e := model.Event{Kind: n.one(model.Enter, model.Try), Thread: thread, Obj: obj}
			l = append(l, check.Call{Event: e, From: from, To: from + n.one(1, 5, 100)})
		}
		if can(t, w, l[:len(l)-1]) {
			alone++
		}
		if l = n.shuffled(l); can(t, w, l) {
			t.Fatalf("%+v: %d and %d own %d both: %s can have been", w, a, b, obj, texts(l))
		}
	}
	if alone < 500 {
		t.Errorf("of %d one of both alone can have been: too few to tell", alone)
	}
}

// P23.5: so it is where each entered once more than it left, and not where one of them
// left as often.
func TestTwoWhoEnteredOftenerThanTheyLeft(t *testing.T) {
	both := "0 enter 0 0..9; 0 try 0 0..9; 0 exit 0 0..9; 1 try 0 0..9; 1 exit 0 0..9; 1 enter 0 0..9"
	scene{"both own it", both, no}.shows(t, world{2, 1, 60})
	scene{"both own it, and are refused", both + "; 0 exit 0 state 0..9; 1 exit 0 state 0..9; 0 holds 0 #0 0..9", no}.shows(t, world{2, 1, 60})
	scene{"the first one left", both + "; 0 exit 0 0..9", []int{0, 1, 2, 6, 3, 4, 5}}.shows(t, world{2, 1, 60})
	scene{"the second one left", both + "; 1 exit 0 0..9", []int{0, 2, 3, 4, 5, 6, 1}}.shows(t, world{2, 1, 60})
	scene{"at two objects", "0 enter 0 0..9; 1 enter 1 0..9", []int{0, 1}}.shows(t, world{2, 2, 60})
	scene{"one of them twice", "0 enter 0 0..9; 0 enter 0 0..9", []int{0, 1}}.shows(t, world{2, 2, 60})
}
