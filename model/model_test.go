package model_test

import (
	"math"
	"slices"
	"testing"

	"futtock/api"
	"futtock/model"
)

// sizes are such as there may be, of a thing of which there are at most so many.
func sizes(most int) []int { return []int{1, 2, most - 1, most} }

// wrongSizes are such as there may not be.
func wrongSizes(most int) []int {
	return []int{0, -1, -2, -most, most + 1, most + 2, 2 * most, 256, 1 << 32, 1<<32 + 1, -1 << 32, math.MaxInt, math.MinInt, math.MinInt + 1}
}

// P14.1, P14.2: in a new model nobody owns, waits or was interrupted, there are no
// hashes, and nothing of what there is not.
func TestNew(t *testing.T) {
	for _, threads := range sizes(8) {
		for _, objects := range sizes(8) {
			for _, count := range sizes(60) {
				m, s := made(t, threads, objects, count)
				shows(t, m, s)
				showsNothing(t, m, noNumbers(objects), noNumbers(threads))
				for _, kind := range []int{model.Leave, model.End} {
					for err := range api.Errno(16) {
						applied(t, m, s, model.Event{Kind: kind, Thread: threads - 1, Obj: objects - 1, Err: err})
					}
				}
				shows(t, m, s)
			}
		}
	}
}

// P14.1: so many there may not be.
func TestNewOfWhatMayNotBe(t *testing.T) {
	refused := func(threads, objects, count int) {
		t.Helper()
		if m, err := model.New(threads, objects, count); m != nil || err != api.ErrArg {
			t.Errorf("New(%d, %d, %d) is %v, %d", threads, objects, count, m, err)
		}
	}
	for _, n := range wrongSizes(8) {
		for _, others := range [][2]int{{1, 1}, {8, 60}, {0, 1}, {1, 0}, {9, 61}} {
			refused(n, others[0], others[1])
			refused(others[0], n, others[1])
		}
	}
	for _, n := range wrongSizes(60) {
		for _, others := range [][2]int{{1, 1}, {8, 8}, {0, 1}, {1, 0}} {
			refused(others[0], others[1], n)
		}
	}
}

// P14.1, P14.2: the last thread and the last object of as many as may be are like
// the others.
func TestLastOnes(t *testing.T) {
	m, s := made(t, 8, 8, 60)
	for _, e := range events(t, "7 enter 7; 7 enter 7; 7 hash 7 5; 7 begin 7; 6 enter 7; 6 interrupt 7 7; 6 wake 7 7; 6 exit 7; 7 end 7; 7 begin 7 intr; 7 holds 7 1; 7 exit 7") {
		var ok bool
		if s, ok = applied(t, m, s, e); !ok {
			t.Fatalf("%v may not be", e)
		}
		shows(t, m, s)
		showsNothing(t, m, noNumbers(8), noNumbers(8))
	}
	if got := says(m, 7); got != "7 x1 w l h5 f" {
		t.Error(got)
	}
}

// P14.2: what waits, left, was interrupted or has a hash is told of what there is,
// not of numbers that are none, though these have some of its bits.
func TestOfWhatThereIsNot(t *testing.T) {
	m := behind(t, 3, 2, 3, "0 hash 0 5; 0 hash 1 6; 0 interrupt 0 0; 0 interrupt 0 1; 0 interrupt 0 2; 0 enter 0; 0 begin 0; 1 enter 0; 1 begin 0; 1 leave 0 time; 2 enter 0; 2 enter 1")
	showsNothing(t, m, noNumbers(2), noNumbers(3))
}

// P14.2: Waiters and Left rise, in whatever order they came and left.
func TestWaitersAndLeftRise(t *testing.T) {
	n := numbers(11)
	for range 200 {
		m, s := made(t, 8, 2, 60)
		var order []int
		for i := range 8 {
			order = slices.Insert(order, n.below(i+1), i)
		}
		for _, thread := range order {
			s, _ = applied(t, m, s, model.Event{Kind: model.Enter, Thread: thread, Obj: 1})
			s, _ = applied(t, m, s, model.Event{Kind: model.Begin, Thread: thread, Obj: 1})
			shows(t, m, s)
		}
		if l := m.Waiters(1); !slices.Equal(l, []int{0, 1, 2, 3, 4, 5, 6, 7}) {
			t.Fatalf("Waiters are %v", l)
		}
		for i := range order {
			thread := order[(i+3)%8]
			s, _ = applied(t, m, s, model.Event{Kind: model.Leave, Thread: thread, Obj: 1, Err: api.ErrTime})
			shows(t, m, s)
		}
		if l := m.Left(1); !slices.Equal(l, []int{0, 1, 2, 3, 4, 5, 6, 7}) {
			t.Fatalf("Left are %v", l)
		}
	}
}

// nobodys are models that New did not give.
func nobodys() []*model.Model {
	refused, _ := model.New(0, 1, 1)
	return []*model.Model{nil, {}, new(model.Model), refused}
}

// P14.2: a nil model, and one that New did not give, in every call.
func TestModelsThatNewDidNotGive(t *testing.T) {
	all := []int{0, 1, 2, 7, -1, 8, math.MaxInt, math.MinInt}
	for i, m := range nobodys() {
		for range 2 {
			for _, row := range rows {
				for _, thread := range all {
					for _, obj := range all {
						e := model.Event{Kind: row.kind, Thread: thread, Obj: obj, Err: row.err}
						for e.Arg = -1; e.Arg < 2; e.Arg++ {
							if err := m.Apply(e); err != api.ErrBroken {
								t.Errorf("%d: Apply(%v) is %d", i, e, err)
							}
						}
					}
				}
			}
			if err := m.Apply(model.Event{}); err != api.ErrBroken {
				t.Errorf("%d: Apply of no kind is %d", i, err)
			}
			showsNothing(t, m, all, all)
			if c := m.Clone(); c != nil {
				t.Errorf("%d: Clone is %v", i, c)
			}
		}
	}
}

// P14.2: two such ones are the same; such a one and one that is there are not.
func TestSameOfModelsThatNewDidNotGive(t *testing.T) {
	there := []*model.Model{behind(t, 1, 1, 1, ""), behind(t, 8, 8, 60, ""), behind(t, 3, 2, 3, wait2), behind(t, 3, 2, 3, most)}
	for i, m := range nobodys() {
		for k, o := range nobodys() {
			if !m.Same(o) {
				t.Errorf("%d and %d are not the same", i, k)
			}
		}
		if !m.Same(m) || !m.Same(m.Clone()) {
			t.Errorf("%d is not the same as itself", i)
		}
		for k, o := range there {
			if m.Same(o) || o.Same(m) {
				t.Errorf("%d and the model %d are the same", i, k)
			}
		}
	}
}

// same tells of two that are not told to be what they are, asked both ways.
func same(t *testing.T, m, o *model.Model, want bool) {
	t.Helper()
	if m.Same(o) != want || o.Same(m) != want {
		t.Errorf("Same is %v and %v: %s, %s", m.Same(o), o.Same(m), says(m, 0), says(o, 0))
	}
}

// P14.2: models that came to be the same by different ways.
func TestSameByDifferentWays(t *testing.T) {
	for _, x := range [][2]string{
		{"", "0 enter 0; 0 exit 0"},
		{"", "1 exit 0 state; 0 holds 1; 2 begin 0 state"},
		{"0 enter 0", "0 try 0"},
		{"0 enter 0; 1 enter 1", "1 enter 1; 0 enter 0"},
		{twice, most + "; 0 exit 0"},
		{twice, late + "; 0 end 0 time"},
		{twice, broken + "; 0 end 0 intr"},
		{twice, back + "; 0 end 0"},
		{twice, twice + flag + "; 0 begin 0 intr"},
		{twice, twice + "; 0 begin 0 out; 1 enter 0 out; 1 hash 0 out"},
		{late, "2 enter 1; 2 exit 1; " + late},
		{back, twice + "; 0 begin 0; 2 enter 0; 2 wake 0 0; 2 all 0; 2 exit 0"},
		{wait2, "2 enter 0; 2 begin 0; " + waits},
		{wait2 + "; 0 leave 0 time; 2 leave 0 time", wait2 + "; 2 leave 0 time; 0 leave 0 time"},
		{"0 hash 0 7", "1 hash 0 7; 0 hash 0 7"},
		{"0 interrupt 0 1", "1 interrupt 0 1; 2 interrupt 1 1"},
	} {
		same(t, behind(t, 3, 2, 3, x[0]), behind(t, 3, 2, 3, x[1]), true)
	}
}

// P14.2: models that differ in one thing alone.
func TestSameOfTwoThatDiffer(t *testing.T) {
	for _, x := range [][2]string{
		{"", "0 enter 0"},
		{"0 enter 0", "1 enter 0"},
		{"0 enter 0", "0 enter 1"},
		{"0 enter 0", "0 enter 0; 0 enter 0"},
		{"", "0 hash 0 1"},
		{"0 hash 0 1", "0 hash 0 2"},
		{"0 hash 0 1", "0 hash 1 1"},
		{"", "0 interrupt 0 0"},
		{"0 interrupt 0 0", "0 interrupt 0 1"},
		{"", "0 enter 0; 0 begin 0"},
		{"0 enter 0; 0 begin 0", "1 enter 0; 1 begin 0"},
		{"0 enter 0; 0 begin 0", "0 enter 1; 0 begin 1"},
		{"0 enter 0; 0 begin 0", waits},
		{waits, wait2},
		{waits, late},
		{"0 enter 0; 0 begin 0; 0 leave 0 time", late},
		{"0 enter 0; 0 begin 0; 0 leave 0 time", "1 enter 0; 1 begin 0; 1 leave 0 time"},
		{"0 enter 0; 0 begin 0; 0 leave 0 time", "0 enter 1; 0 begin 1; 0 leave 1 time"},
		{late, back},
		{late + flag, broken},
		{back + flag, broken},
		{late, wait2 + "; 0 leave 0 time; 2 leave 0 time"},
	} {
		same(t, behind(t, 3, 2, 3, x[0]), behind(t, 3, 2, 3, x[1]), false)
	}
	for _, text := range []string{"", "0 enter 0", "0 enter 0; 0 begin 0", "0 enter 0; 0 begin 0; 0 leave 0 time", "0 hash 0 1", "0 interrupt 0 0"} {
		m := behind(t, 3, 2, 3, text)
		same(t, m, behind(t, 3, 2, 3, text), true)
		for _, o := range []*model.Model{behind(t, 2, 2, 3, text), behind(t, 4, 2, 3, text), behind(t, 3, 1, 3, text), behind(t, 3, 3, 3, text), behind(t, 3, 2, 2, text), behind(t, 3, 2, 4, text), behind(t, 2, 3, 3, text)} {
			same(t, m, o, false)
		}
	}
}

// P14.2: a Clone is the same, and goes on alone, as does what it is of.
func TestClone(t *testing.T) {
	for _, x := range []struct{ ahead, event string }{
		{"", "0 enter 0"},
		{twice, "0 exit 0"},
		{twice, "0 begin 0"},
		{twice + flag, "0 begin 0 intr"},
		{waits, "0 leave 0 time"},
		{waits, "1 enter 0"},
		{waits + "; 1 enter 0", "1 wake 0 0"},
		{waits + "; 1 enter 0", "1 begin 0"},
		{late, "0 end 0 time"},
		{broken, "0 end 0 intr"},
		{back, "0 end 0"},
		{"", "0 hash 0 7"},
		{"", "0 interrupt 0 2"},
	} {
		m := behind(t, 3, 2, 3, x.ahead)
		was := says(m, 0)
		c := m.Clone()
		same(t, m, c, true)
		if c == m || says(c, 0) != was {
			t.Fatalf("%q: the Clone is %s, not %s", x.ahead, says(c, 0), was)
		}
		does(t, c, x.event)
		if says(m, 0) != was {
			t.Errorf("%q: the Clone's %q turns its original to %s", x.ahead, x.event, says(m, 0))
		}
		same(t, m, c, false)
		d := m.Clone()
		does(t, m, x.event)
		if says(d, 0) != was {
			t.Errorf("%q: the original's %q turns its Clone to %s", x.ahead, x.event, says(d, 0))
		}
		same(t, m, c, true)
		same(t, m, d, false)
	}
}

// P14.2: two models, and clones, go on alone through many transitions of no
// pattern.
func TestModelsAreApart(t *testing.T) {
	n := numbers(29)
	for range 20 {
		a, s := made(t, 4, 3, 2)
		b, u := made(t, 4, 3, 2)
		for range 400 {
			s, _ = applied(t, a, s, n.some(s))
			shows(t, b, u)
			u, _ = applied(t, b, u, n.some(u))
			shows(t, a, s)
			if a.Same(b) != (s == u) {
				t.Fatalf("Same is %v", a.Same(b))
			}
			if n.below(40) == 0 {
				b, u = a.Clone(), s
			}
		}
	}
}

// P14.2: Waiters and Left are the caller's, who may write into them.
func TestAnswersAreTheCallers(t *testing.T) {
	for _, x := range []struct {
		ahead string
		ask   func(m *model.Model) []int
	}{
		{wait2, func(m *model.Model) []int { return m.Waiters(0) }},
		{wait2 + "; 0 leave 0 time; 2 leave 0 time", func(m *model.Model) []int { return m.Left(0) }},
	} {
		m := behind(t, 3, 2, 3, x.ahead)
		c := m.Clone()
		was := x.ask(m)
		for range 3 {
			l := x.ask(m)
			if !slices.Equal(l, []int{0, 2}) {
				t.Fatalf("%q: %v", x.ahead, l)
			}
			l[0], l[1] = 9, -9
			l = append(l[:1], 5, 6, 7)
			l[0] = 8
		}
		if !slices.Equal(was, []int{0, 2}) || !slices.Equal(x.ask(c), []int{0, 2}) || !m.Same(c) {
			t.Errorf("%q: an answer that was changed turned another one, or the model", x.ahead)
		}
		before := says(m, 0)
		does(t, m, "1 enter 0; 1 begin 0; 1 leave 0 time")
		if !slices.Equal(was, []int{0, 2}) || says(c, 0) != before {
			t.Errorf("%q: an answer was turned behind the call", x.ahead)
		}
	}
}
