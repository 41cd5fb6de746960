package model_test

import (
	"slices"
	"testing"

	"futtock/api"
	"futtock/model"
)

// world is a small model of which all states are gone through.
type world struct {
	threads, objects, most int
	hashes                 bool // whether behind a Hash one goes on as well
}

// all are all transitions of few numbers of a world, such as may be and such as
// may not.
func (w world) all() []model.Event {
	var l []model.Event
	errs := []api.Errno{-1, api.OK, api.ErrArg, api.ErrState, api.ErrOver, api.ErrOut, api.ErrIntr, api.ErrTime, api.ErrBusy, api.ErrBroken, 16}
	for kind := range 14 {
		for thread := range w.threads {
			for obj := range w.objects {
				for arg := -1; arg <= max(w.threads, 2); arg++ {
					for _, err := range errs {
						l = append(l, model.Event{Kind: kind, Thread: thread, Obj: obj, Arg: arg, Err: err})
					}
				}
			}
		}
	}
	return l
}

// P14.1, P14.2: all states to which small models come, and in each of them all
// transitions of few numbers. Of each state the models that came to be so are the
// same, and of two states they are not.
func TestAllStates(t *testing.T) {
	for _, w := range []world{
		{threads: 1, objects: 1, most: 2, hashes: true},
		{threads: 2, objects: 1, most: 2, hashes: true},
		{threads: 1, objects: 2, most: 2, hashes: true},
		{threads: 3, objects: 1, most: 1},
		{threads: 2, objects: 2, most: 1},
	} {
		m, s := made(t, w.threads, w.objects, w.most)
		found := map[slow]*model.Model{s: m}
		states := []slow{s}
		met := map[told]bool{}
		for i := 0; i < len(states); i++ {
			states = append(states, w.beyond(t, found, states[i], met)...)
		}
		if w.threads > 1 && len(met) != len(rows) {
			t.Errorf("%v: of %d kinds with their errors %d were done", w, len(rows), len(met))
		}
		for i, s := range states {
			for _, u := range states[i+1:] {
				if found[s].Same(found[u]) {
					t.Fatalf("two are the same: %v, %v", s, u)
				}
			}
		}
	}
}

// beyond are the states that were not found so far, and to which one comes from
// one that was.
func (w world) beyond(t *testing.T, found map[slow]*model.Model, s slow, met map[told]bool) []slow {
	t.Helper()
	var l []slow
	m := found[s]
	for _, e := range w.all() {
		u, ok := s.after(e)
		if !ok {
			applied(t, m, s, e)
			continue
		}
		met[told{e.Kind, e.Err}] = true
		c := m.Clone()
		applied(t, c, s, e)
		shows(t, c, u)
		if o, there := found[u]; there {
			same(t, c, o, true)
		} else if w.hashes || e.Kind != model.Hash {
			found[u] = c
			l = append(l, u)
		}
	}
	shows(t, m, s)
	return l
}

// P14.1, P14.2: transitions of no pattern, by several threads of several objects,
// those that are refused too, with all that there is asked behind each.
func TestAllOrders(t *testing.T) {
	n := numbers(7)
	met := map[told]int{}
	for _, w := range []world{
		{threads: 1, objects: 1, most: 1}, {threads: 1, objects: 8, most: 60}, {threads: 8, objects: 1, most: 60},
		{threads: 2, objects: 2, most: 2}, {threads: 3, objects: 2, most: 1}, {threads: 4, objects: 3, most: 3},
		{threads: 8, objects: 8, most: 60}, {threads: 8, objects: 2, most: 2},
	} {
		for range 10 {
			m, s := made(t, w.threads, w.objects, w.most)
			for range 2000 {
				e := n.some(s)
				u, ok := applied(t, m, s, e)
				shows(t, m, u)
				if ok {
					met[told{e.Kind, e.Err}]++
				}
				s = u
			}
			showsNothing(t, m, noNumbers(w.objects), noNumbers(w.threads))
		}
	}
	for _, row := range rows {
		if met[row] < 100 {
			t.Errorf("%v was done %d times: too few to tell", row, met[row])
		}
	}
	if len(met) != len(rows) {
		t.Errorf("there are %d kinds with their errors, not %d", len(met), len(rows))
	}
}

// walk does transitions of no pattern of some models, and calls back behind each
// that was done with the model as it was and as it is.
func walk(t *testing.T, seed numbers, call func(was, is *model.Model, e model.Event)) {
	t.Helper()
	for _, w := range []world{{threads: 3, objects: 2, most: 2}, {threads: 2, objects: 1, most: 1}, {threads: 8, objects: 4, most: 3}} {
		for range 10 {
			m, s := made(t, w.threads, w.objects, w.most)
			for range 2000 {
				e := seed.some(s)
				was := m.Clone()
				if m.Apply(e) == api.OK {
					call(was, m, e)
				} else if !m.Same(was) {
					t.Fatalf("Apply(%v) is refused, and turns something", e)
				}
				s, _ = s.after(e)
			}
		}
	}
}

// P14.3: Owner and Count are both there, or both not; who waits, or left, does not
// own.
func TestOneOwner(t *testing.T) {
	waiters, left := 0, 0
	walk(t, 5, func(_, m *model.Model, e model.Event) {
		for obj := range 4 {
			owner, count := m.Owner(obj), m.Count(obj)
			if (owner == -1) != (count == 0) || owner < -1 || count < 0 {
				t.Fatalf("%v: %d owns %d, %d times", e, owner, obj, count)
			}
			if slices.Contains(m.Waiters(obj), owner) || slices.Contains(m.Left(obj), owner) {
				t.Fatalf("%v: %d owns %d, and waits or left", e, owner, obj)
			}
			if owner >= 0 {
				waiters += len(m.Waiters(obj))
				left += len(m.Left(obj))
			}
		}
	})
	if waiters < 1000 || left < 1000 {
		t.Errorf("while somebody owned an object %d waited, and %d left: too few to tell", waiters, left)
	}
}

// P14.4: a hash that is there is never another one.
func TestHashStays(t *testing.T) {
	there := 0
	walk(t, 17, func(was, is *model.Model, e model.Event) {
		for obj := range 4 {
			if h := was.Hash(obj); h != 0 {
				there++
				if is.Hash(obj) != h {
					t.Fatalf("%v: the hash %d is %d", e, h, is.Hash(obj))
				}
			}
		}
	})
	if there < 1000 {
		t.Errorf("a hash was there %d times: too few to tell", there)
	}
}

// P14.4: so it is at the least hash and the greatest one.
func TestHashStaysAtItsEnds(t *testing.T) {
	hashes := []int{1, 2, 1<<31 - 2, 1<<31 - 1}
	for _, h := range hashes {
		m, _ := made(t, 2, 2, 1)
		for range 2 {
			for _, arg := range append([]int{0, -1, -h, h + 1, h - 1, 1 << 31, 1<<32 + h, -1 << 31}, hashes...) {
				want := api.ErrBroken
				if arg == h || arg >= 1 && arg <= 1<<31-1 && m.Hash(0) == 0 {
					want = api.OK
				}
				c := m.Clone()
				if err := c.Apply(model.Event{Kind: model.Hash, Thread: 1, Arg: arg}); err != want {
					t.Errorf("a Hash of %d is %d, not %d", arg, err, want)
				}
				if want != api.OK && !c.Same(m) || want == api.OK && c.Hash(0) != arg {
					t.Errorf("the hash is %d behind a Hash of %d", c.Hash(0), arg)
				}
			}
			if err := m.Apply(model.Event{Kind: model.Hash, Arg: h}); err != api.OK || m.Hash(0) != h || m.Hash(1) != 0 {
				t.Fatalf("a Hash of %d is %d: %d", h, err, m.Hash(0))
			}
		}
	}
}

// P14.5: what tells ErrState, ErrOver, ErrBusy, ErrOut turns nothing; ErrIntr of
// Begin turns the flag alone.
func TestErrorsTurnNothing(t *testing.T) {
	met := map[told]int{}
	walk(t, 23, func(was, is *model.Model, e model.Event) {
		switch {
		case e.Err == api.ErrState, e.Err == api.ErrOver, e.Err == api.ErrBusy, e.Err == api.ErrOut:
			if !is.Same(was) {
				t.Fatalf("%v turns something", e)
			}
		case e.Kind == model.Begin && e.Err == api.ErrIntr:
			c := is.Clone()
			if !was.Flag(e.Thread) || is.Flag(e.Thread) {
				t.Fatalf("%v: the flag was %v, and is %v", e, was.Flag(e.Thread), is.Flag(e.Thread))
			}
			err := c.Apply(model.Event{Kind: model.Interrupt, Thread: e.Thread, Arg: e.Thread})
			if err != api.OK || !c.Same(was) {
				t.Fatalf("%v turns more than the flag: %d", e, err)
			}
		}
		met[told{e.Kind, e.Err}]++
	})
	for _, row := range rows {
		if met[row] < 50 {
			t.Errorf("%v was done %d times: too few to tell", row, met[row])
		}
	}
}
