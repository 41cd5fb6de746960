package script_test

import (
	"testing"

	"futtock/api"
	"futtock/script"
)

// sameIs tells if Same of two scripts is something else, either way round.
func sameIs(t *testing.T, a, b script.Script, want bool) {
	t.Helper()
	wasA, wasB := copied(a), copied(b)
	if script.Same(a, b) != want || script.Same(b, a) != want {
		t.Errorf("Same is %v of %s and %s", !want, brief(a), brief(b))
	}
	if !like(a, wasA) || !like(b, wasB) {
		t.Errorf("Same turned %s or %s", brief(wasA), brief(wasB))
	}
}

// P24.1: a script is the same as itself and as its copy; another one differs in one
// thing.
func TestSame(t *testing.T) {
	s := whole(t)
	sameIs(t, s, s, true)
	sameIs(t, s, copied(s), true)
	sameIs(t, s, whole(t), true)
	sameIs(t, s, script.Script{}, false)
	for name, turn := range map[string]func(s *script.Script){
		"Threads":            func(s *script.Script) { s.Config.Threads++ },
		"Objects":            func(s *script.Script) { s.Config.Objects++ },
		"Classes":            func(s *script.Script) { s.Config.Classes-- },
		"Slots":              func(s *script.Script) { s.Config.Slots++ },
		"Spin":               func(s *script.Script) { s.Config.Spin++ },
		"Count":              func(s *script.Script) { s.Config.Count++ },
		"Bias":               func(s *script.Script) { s.Config.Bias++ },
		"Rebias":             func(s *script.Script) { s.Config.Rebias++ },
		"Revoke":             func(s *script.Script) { s.Config.Revoke++ },
		"the lowest Seed":    func(s *script.Script) { s.Config.Seed ^= 1 },
		"the highest Seed":   func(s *script.Script) { s.Config.Seed ^= 1 << 63 },
		"a kind":             func(s *script.Script) { s.Progs[0][0].Kind = 2 },
		"an object":          func(s *script.Script) { s.Progs[0][4].Obj = 1 },
		"an Arg":             func(s *script.Script) { s.Progs[0][2].Arg = 257 },
		"the last Arg":       func(s *script.Script) { s.Progs[1][5].Arg = 1 },
		"one operation less": func(s *script.Script) { s.Progs[0] = s.Progs[0][:4] },
		"one operation more": func(s *script.Script) { s.Progs[1] = append(s.Progs[1], api.Op{Kind: 1}) },
		"a zero operation":   func(s *script.Script) { s.Progs[1] = append(s.Progs[1], api.Op{}) },
		"no operations":      func(s *script.Script) { s.Progs[0] = nil },
		"operations' order":  func(s *script.Script) { p := s.Progs[0]; p[0], p[1] = p[1], p[0] },
		"programs' order":    func(s *script.Script) { p := s.Progs; p[0], p[1] = p[1], p[0] },
		"one program less":   func(s *script.Script) { s.Progs = s.Progs[:1] },
		"one program more":   func(s *script.Script) { s.Progs = append(s.Progs, nil) },
		"no programs":        func(s *script.Script) { s.Progs = nil },
		"one joined program": func(s *script.Script) { s.Progs = [][]api.Op{append(s.Progs[0], s.Progs[1]...), nil} },
		"a turn's kind":      func(s *script.Script) { s.Turns[2].Kind = 2 },
		"the first N":        func(s *script.Script) { s.Turns[0].N = 1 },
		"the last N":         func(s *script.Script) { s.Turns[6].N = 0 },
		"one turn less":      func(s *script.Script) { s.Turns = s.Turns[:6] },
		"one turn more":      func(s *script.Script) { s.Turns = append(s.Turns, script.Turn{Kind: 1}) },
		"a zero turn more":   func(s *script.Script) { s.Turns = append(s.Turns, script.Turn{}) },
		"no turns":           func(s *script.Script) { s.Turns = nil },
		"turns' order":       func(s *script.Script) { x := s.Turns; x[0], x[1] = x[1], x[0] },
	} {
		other := with(s, turn)
		if like(s, other) {
			t.Errorf("%s: nothing is turned", name)
		}
		sameIs(t, s, other, false)
		sameIs(t, other, with(s, turn), true)
	}
}

// P24.1: scripts that may not be are the same or not as others are.
func TestSameOfWhatMayNotBe(t *testing.T) {
	for _, s := range []script.Script{
		{},
		{Config: api.Config{Threads: -1}},
		{Progs: [][]api.Op{{{Kind: -1, Obj: 1 << 40, Arg: 1 << 33}}}},
		{Turns: []script.Turn{{Kind: 99, N: -1}, {}}},
	} {
		sameIs(t, s, copied(s), true)
		sameIs(t, s, with(s, func(s *script.Script) { s.Turns = append(s.Turns, script.Turn{}) }), false)
		sameIs(t, s, with(s, func(s *script.Script) { s.Config.Threads += 1 << 32 }), false)
		sameIs(t, s, with(s, func(s *script.Script) { s.Progs = append(s.Progs, nil) }), false)
	}
}

// R6: lists that are nil and such as are empty are the same.
func TestSameOfNothing(t *testing.T) {
	lists := []script.Script{
		{Config: least(2, 1), Progs: [][]api.Op{nil, nil}},
		{Config: least(2, 1), Progs: [][]api.Op{{}, nil}, Turns: []script.Turn{}},
		{Config: least(2, 1), Progs: [][]api.Op{{}, {}}},
		{Config: least(2, 1), Progs: [][]api.Op{make([]api.Op, 0, 9), {}}, Turns: make([]script.Turn, 0, 9)},
	}
	b := laid(lists[0])
	for _, s := range lists {
		for _, other := range lists {
			sameIs(t, s, other, true)
		}
		lays(t, s, b)
	}
	none := []script.Script{{}, {Progs: [][]api.Op{}}, {Turns: []script.Turn{}}}
	for _, s := range none {
		for _, other := range none {
			sameIs(t, s, other, true)
		}
		refuses(t, s, api.ErrArg)
	}
}
