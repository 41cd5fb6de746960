package abst_test

import (
	"math"
	"reflect"
	"slices"
	"testing"

	"futtock/abst"
	"futtock/api"
	"futtock/core"
	"futtock/word"
)

// far are numbers that are no object of any machine.
var far = []int{-1, -2, -8, 8, 9, 16, 64, 127, 128, 255, 256, 65536, 1 << 31, 1 << 32, 1<<32 + 1, -1 << 32, math.MaxInt, math.MaxInt - 1, math.MinInt, math.MinInt + 1}

// isNothing tells if a state is not that of nobody, and nothing.
func isNothing(s abst.State) bool {
	return s.Owner == -1 && s.Count == 0 && len(s.Waiters) == 0 && s.Hash == 0
}

// P22.1, P22.2: of no such object Of is nobody, nothing and false, Model nobody and
// nothing.
func TestObjectsThatAreNone(t *testing.T) {
	for objects := 1; objects <= 8; objects++ {
		c := with(greatest(), func(c *api.Config) { c.Objects = objects })
		m := made(t, c, "enter 0; hash 0; wait 0", "hash 0; enter 0")
		does(t, m, "0! 1!")
		for _, o := range append(slices.Clone(far), objects, objects+1) {
			if s, ok := abst.Of(m, o); !isNothing(s) || ok {
				t.Errorf("of %d objects Of %d is %s, %v", objects, o, text(s), ok)
			}
			if s := abst.Model(m, o); !isNothing(s) {
				t.Errorf("of %d objects Model of %d is %s", objects, o, text(s))
			}
		}
		if s, ok := abst.Of(m, objects-1); !ok || (s.Owner >= 0) == (objects > 1) || len(abst.All(m)) != objects {
			t.Errorf("of %d objects the last one is %s, %v", objects, text(s), ok)
		}
	}
}

// P22.1, P22.2: a nil machine, and one that New did not give, have no objects, and so
// agree.
func TestNoMachine(t *testing.T) {
	refused, _ := core.New(api.Config{}, nil)
	for _, m := range []*core.Machine{nil, refused, {}, new(core.Machine)} {
		for _, o := range append(slices.Clone(far), 0, 1, 7) {
			if s, ok := abst.Of(m, o); !isNothing(s) || ok {
				t.Errorf("of no machine Of %d is %s, %v", o, text(s), ok)
			}
			if s := abst.Model(m, o); !isNothing(s) {
				t.Errorf("of no machine Model of %d is %s", o, text(s))
			}
		}
		if all := abst.All(m); len(all) != 0 || !abst.Agrees(m) {
			t.Errorf("of no machine All is %v, Agrees %v", all, abst.Agrees(m))
		}
	}
}

// P22.1: of a header that is none: nobody, nothing and false.
func TestHeadersThatAreNone(t *testing.T) {
	m := made(t, least(2), "hash 0; enter 0; hash 0; wait 0", "enter 0")
	does(t, m, "0! 1!")
	for _, w := range []uint64{3, 4, 6, 7, 8, 1 << 8, 9 << 40, 1<<63 | 1, math.MaxUint64, 0x80 | 1, 1<<48 | 2} {
		if s, ok := abst.Meaning(m, 0, w); !isNothing(s) || ok || word.Kind(w) != 0 {
			t.Errorf("of the word %#x the state is %s, %v", w, text(s), ok)
		}
	}
}

// R1: headers that no machine of these numbers comes to, of threads and slots that it
// has not, mean something, and panic in nothing.
func TestHeadersThatNoMachineHas(t *testing.T) {
	for _, x := range []struct {
		h    word.Header
		want string
	}{
		{word.Header{Kind: word.Neutral, Age: 15, Hash: mostHash}, "-1 x0 [] #2147483647"},
		{word.Header{Kind: word.Thin, Owner: 9}, "8 x0 [] #0"},
		{word.Header{Kind: word.Thin, Owner: 65535, Record: 65535}, "65534 x0 [] #0"},
		{word.Header{Kind: word.Thin, Owner: 2, Record: 7}, "1 x2 [] #5"},
		{word.Header{Kind: word.Biased, Owner: 3, Epoch: 255}, "-1 x0 [] #0"},
		{word.Header{Kind: word.Biased, Owner: 2, Epoch: 255, Age: 15}, "1 x2 [] #0"},
		{word.Header{Kind: word.Biased, Owner: 65535}, "-1 x0 [] #0"},
		{word.Header{Kind: word.Inflating}, "1 x2 [] #5"},
		{word.Header{Kind: word.Fat, Slot: 1}, "-1 x0 [] #0"},
		{word.Header{Kind: word.Fat, Slot: 16}, "-1 x0 [] #0"},
		{word.Header{Kind: word.Fat, Slot: 65535, Gen: 1<<24 - 1}, "-1 x0 [] #0"},
	} {
		m := made(t, least(3), "enter 0; exit 0", "hash 0; enter 0; enter 0")
		does(t, m, "0! 1!")
		w, err := word.Code(x.h)
		if s, ok := abst.Meaning(m, 0, w); err != api.OK || text(s) != x.want || !ok {
			t.Errorf("of %+v the state is %s, %v, not %s", x.h, text(s), ok, x.want)
		}
	}
	m := made(t, least(1), "")
	if s, ok := abst.Meaning(m, 0, 0); !isNothing(s) || !ok {
		t.Errorf("of 0, and nobody who has records, the state is %s, %v", text(s), ok)
	}
}

// P22.1: Same of two that are the same, and of two that differ in one thing.
func TestSame(t *testing.T) {
	all := []abst.State{
		{}, {Owner: -1}, {Owner: 1}, {Owner: 0, Count: 1}, {Owner: 0, Count: 2}, {Owner: 1, Count: 1}, {Owner: -1, Count: 1},
		{Owner: -1, Hash: 5}, {Owner: -1, Hash: 6}, {Owner: 0, Count: 1, Hash: 5}, {Owner: -1, Hash: mostHash}, {Owner: -1, Hash: -5},
		{Owner: -1, Waiters: []int{0}}, {Owner: -1, Waiters: []int{1}}, {Owner: -1, Waiters: []int{0, 1}}, {Owner: -1, Waiters: []int{1, 0}},
		{Owner: -1, Waiters: []int{0, 2}}, {Owner: -1, Waiters: []int{0, 0}}, {Owner: -1, Waiters: []int{0, 1, 2}}, {Owner: -1, Waiters: []int{-1}},
		{Owner: 2, Count: 60, Waiters: []int{0, 1, 3, 4, 5, 6, 7}, Hash: 5}, {Owner: 2, Count: 60, Waiters: []int{0, 1, 3, 4, 5, 6}, Hash: 5},
		{Owner: 2, Count: 60, Waiters: []int{0, 1, 3, 4, 5, 7, 6}, Hash: 5}, {Owner: 2, Count: 59, Waiters: []int{0, 1, 3, 4, 5, 6, 7}, Hash: 5},
		{Owner: math.MaxInt, Count: math.MinInt, Waiters: []int{math.MaxInt, math.MinInt}, Hash: math.MaxInt},
	}
	for i, a := range all {
		for k, b := range all {
			b.Waiters = slices.Clone(b.Waiters)
			if abst.Same(a, b) != (i == k) {
				t.Errorf("Same of %+v, %+v is %v", a, b, i != k)
			}
		}
	}
}

// P22.1, R6: lists that are nil and empty are the same.
func TestSameOfNoWaiters(t *testing.T) {
	for _, a := range [][]int{nil, {}, make([]int, 0, 8)} {
		for _, b := range [][]int{nil, {}, make([]int, 0, 8)} {
			if !abst.Same(abst.State{Waiters: a}, abst.State{Waiters: b}) {
				t.Errorf("Same of %#v, %#v is false", a, b)
			}
			if abst.Same(abst.State{Waiters: a}, abst.State{Waiters: []int{0}}) || abst.Same(abst.State{Waiters: []int{0}}, abst.State{Waiters: b}) {
				t.Errorf("Same of %#v and one is true", a)
			}
		}
	}
}

// R4: Same turns nothing of what it is handed.
func TestSameTurnsNothing(t *testing.T) {
	a, b := abst.State{Waiters: []int{2, 0, 1}}, abst.State{Waiters: []int{1, 2, 0}}
	if abst.Same(a, b) || !reflect.DeepEqual(a.Waiters, []int{2, 0, 1}) || !reflect.DeepEqual(b.Waiters, []int{1, 2, 0}) {
		t.Errorf("of %v, %v", a, b)
	}
}

// R4: what was answered, turned by whoever has it, turns no later answer, nor the
// machine.
func TestAnswersAreTheCallers(t *testing.T) {
	const wait = "enter 0; wait 0"
	m := made(t, least(4), wait, wait, wait, "enter 0; hash 0; notify 0; exit 0")
	does(t, m, "2! 0! 1! 3<1")
	scribble := func(l []int) {
		for i := range l {
			l[i] = 99
		}
		_ = append(l, 98)
	}
	for range 3 {
		shows(t, m, 0, "fat 0 [2 0 1]", "3 x1 [0 1 2] #5")
		s, _ := abst.Of(m, 0)
		scribble(s.Waiters)
		scribble(abst.Model(m, 0).Waiters)
		all := abst.All(m)
		scribble(all[0].Waiters)
		all[0] = abst.State{}
	}
	follows(t, m, 0, `
		3<2 | fat 0 [0 1] | 3 x1 [0 1] #5
		3!  | fat 0 [0 1] | 2 x1 [0 1] #5
	`)
}

// R3, R7: to ask turns nothing of the machine: what another one that nobody asked does
// is the same.
func TestAsksTurnNothing(t *testing.T) {
	n := numbers(7)
	for range 20 {
		c := n.config()
		progs := n.programs(c)
		m, _ := core.New(c, progs)
		other, _ := core.New(c, progs)
		for range 200 {
			for o := range 9 {
				abst.Of(m, o)
				abst.Model(m, o)
			}
			abst.All(m)
			abst.Agrees(m)
			thread := n.below(c.Threads)
			if m.Pick(thread) != other.Pick(thread) {
				t.Fatal("to ask turned the machine")
			}
		}
		if fingerprint(m) != fingerprint(other) || !reflect.DeepEqual(m.Log(), other.Log()) || !reflect.DeepEqual(abst.All(m), abst.All(other)) {
			t.Fatal("to ask turned the machine")
		}
	}
}
