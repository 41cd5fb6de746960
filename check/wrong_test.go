package check_test

import (
	"math"
	"slices"
	"strings"
	"testing"

	"futtock/api"
	"futtock/check"
	"futtock/model"
)

// noWorlds are such as there is no model of.
func noWorlds() []world {
	sizes := func(most int) []int {
		return []int{0, -1, -most, most + 1, 2 * most, 256, 1 << 32, 1<<32 + 1, math.MaxInt, math.MinInt, math.MinInt + 1}
	}
	var l []world
	for _, n := range sizes(8) {
		l = append(l, world{n, 1, 1}, world{1, n, 1}, world{n, 8, 60}, world{8, n, 60}, world{n, n, 1}, world{n, n, n})
	}
	for _, n := range sizes(60) {
		l = append(l, world{1, 1, n}, world{8, 8, n})
	}
	return l
}

// noCalls are calls that are none.
func noCalls(t *testing.T) []check.Call {
	l := calls(t, "0 begin 0 state 1..2; 0 begin 0 1..2; 0 leave 0 time 1..2; 0 end 0 1..2; 0 wake 0 #1 1..2; 1 hash 0 out 1..2; 0 hash 0 #7 out 1..2;"+
		"0 notify 0 #0 1..2; 0 notify 0 #-2 state 1..2; 0 enter 0 1..1; 0 enter 0 2..1; 0 exit 0 state 9..-9")
	return append(l, check.Call{}, check.Call{To: 1}, check.Call{Event: model.Event{Kind: 13}, To: 1}, check.Call{Event: model.Event{Kind: -1}, To: 1},
		check.Call{Event: model.Event{Kind: model.Enter}, From: math.MaxInt, To: math.MinInt}, check.Call{Event: model.Event{Kind: model.Enter}, From: math.MinInt, To: math.MinInt})
}

// somany are so many calls that can have been.
func somany(t *testing.T, n int) []check.Call {
	return calls(t, strings.Repeat("0 interrupt 0 #0 1..2;", n))
}

// P23.1: ErrArg, if there is no such model, whatever the calls.
func TestNoModel(t *testing.T) {
	for _, w := range noWorlds() {
		for _, l := range [][]check.Call{nil, {}, somany(t, 1), calls(t, "0 exit 0 1..2"), noCalls(t)[:1], somany(t, 12), somany(t, 13), noCalls(t)} {
			refuses(t, w, l, api.ErrArg)
		}
	}
}

// P23.1: ErrArg, if a call is none: the first one, a middle one and the last one, of as
// many as there may be and of more.
func TestCallsThatAreNone(t *testing.T) {
	for _, c := range noCalls(t) {
		if check.May(c) {
			t.Fatalf("%+v is a call", c)
		}
		for _, many := range []int{1, 2, 3, 11, 12, 13, 14, 100} {
			for _, place := range []int{0, many / 2, many - 1} {
				l := somany(t, many)
				l[place] = c
				for _, w := range []world{{1, 1, 1}, {2, 2, 2}, greatest} {
					refuses(t, w, l, api.ErrArg)
				}
			}
		}
	}
}

// P23.1: ErrMany, if there are more than 12, whether they could have been or not; none
// of 12.
func TestTooMany(t *testing.T) {
	for _, w := range []world{{1, 1, 1}, greatest} {
		for _, many := range []int{13, 14, 16, 17, 32, 33, 64, 65, 1000} {
			refuses(t, w, somany(t, many), api.ErrMany)
			refuses(t, w, append(somany(t, many-1), calls(t, "0 exit 0 1..2")...), api.ErrMany)
			refuses(t, w, append(somany(t, many-1), calls(t, "9 enter 9 1..2")...), api.ErrMany)
		}
		if !can(t, w, somany(t, 12)) || can(t, w, append(somany(t, 11), calls(t, "0 exit 0 1..2")...)) {
			t.Errorf("%+v: twelve are too many", w)
		}
	}
}

// P23.1: of a thread, or an object, that there is not, a call is one, but cannot have
// been.
func TestThreadsAndObjectsThatAreNone(t *testing.T) {
	kinds := []model.Event{
		{Kind: model.Enter}, {Kind: model.Try}, {Kind: model.Exit, Err: api.ErrState}, {Kind: model.Notify, Arg: -1, Err: api.ErrState},
		{Kind: model.All, Err: api.ErrState}, {Kind: model.Hash, Arg: 7}, {Kind: model.Holds}, {Kind: model.Interrupt},
	}
	for _, w := range []world{{1, 1, 1}, {2, 3, 2}, greatest} {
		for _, e := range kinds {
			if !can(t, w, []check.Call{{Event: e, To: 1}}) {
				t.Errorf("%+v: %+v cannot have been", w, e)
			}
			for _, n := range []int{-1, -2, 8, 9, 16, 255, 256, 1 << 32, -1 << 32, math.MaxInt, math.MinInt} {
				ofThread, ofObject := e, e
				ofThread.Thread, ofObject.Obj = n, n
				for _, wrong := range []model.Event{ofThread, ofObject} {
					if can(t, w, []check.Call{{Event: wrong, To: 1}}) || can(t, w, []check.Call{{Event: e, To: 1}, {Event: wrong, To: 1}}) {
						t.Errorf("%+v: %+v can have been", w, wrong)
					}
				}
			}
			ofThread, ofObject := e, e
			ofThread.Thread, ofObject.Obj = w.threads, w.objects
			if can(t, w, []check.Call{{Event: ofThread, To: 1}}) || can(t, w, []check.Call{{Event: ofObject, To: 1}}) {
				t.Errorf("%+v: one too many can have been", w)
			}
		}
	}
}

// R6: no calls, be the list nil or empty, can have been; there is nothing to order.
func TestNoCalls(t *testing.T) {
	for _, w := range []world{{1, 1, 1}, {2, 2, 2}, greatest} {
		for _, l := range [][]check.Call{nil, {}, make([]check.Call, 0, 20)} {
			if !can(t, w, l) {
				t.Errorf("%+v: none cannot have been", w)
			}
			takes(t, w, l, 0)
		}
	}
}

// R4: the lists that are handed in stay as they are, and so does what stands behind
// them.
func TestListsStay(t *testing.T) {
	for _, text := range []string{
		"1 exit 0 0..9; 0 hash 0 #5 0..9; 1 enter 0 0..9", "0 exit 0 0..9; 0 enter 0 0..9; 1 enter 0 0..9",
		"0 exit 0 3..4; 0 enter 0 1..2", "0 begin 0 0..9; 0 enter 0 0..9",
	} {
		room := append(calls(t, text), make([]check.Call, 20)...)
		was := slices.Clone(room)
		for n := range room {
			check.Can(2, 2, 2, room[:n])
			check.Order(2, 2, 2, room[:n])
			check.Serial(2, 2, 2, room[:n])
			if !slices.Equal(room, was) {
				t.Fatalf("%q is turned", text)
			}
		}
	}
}

// R3, R4: what was answered is the caller's: turned, and added to, it turns no later
// answer.
func TestAnswersAreTheCallers(t *testing.T) {
	l := calls(t, "1 exit 0 0..9; 0 hash 0 #5 0..9; 1 enter 0 0..9; 0 holds 0 #0 0..9")
	want := []int{1, 2, 0, 3}
	var orders [][]int
	for range 5 {
		order, err := check.Order(2, 1, 1, l)
		if err != api.OK || !slices.Equal(order, want) {
			t.Fatalf("the order is %v, %d", order, err)
		}
		orders = append(orders, order)
		for _, o := range orders[:len(orders)-1] {
			for i := range o {
				o[i] = 99
			}
			_ = append(o, 98, 97)
		}
		if !slices.Equal(order, want) {
			t.Fatalf("the order is turned: %v", order)
		}
	}
}

// R3: later answers hang on what is handed in then, not on the calls that were asked of
// before.
func TestNothingIsKept(t *testing.T) {
	l := calls(t, "0 enter 0 1..2; 0 exit 0 3..4")
	if !can(t, world{2, 1, 1}, l) {
		t.Fatal("they cannot have been")
	}
	l[1].Event.Thread = 1
	if can(t, world{2, 1, 1}, l) {
		t.Error("turned, they can have been still")
	}
	takes(t, world{2, 1, 1}, l, 1)
	l[1].Event.Thread = 0
	if !can(t, world{2, 1, 1}, l) {
		t.Error("turned back, they cannot have been")
	}
	takes(t, world{2, 1, 1}, l, 2)
}
