package abst_test

import (
	"crypto/sha256"
	"fmt"
	"slices"
	"strconv"
	"testing"

	"futtock/api"
	"futtock/core"
)

// course is all orders of the steps of some programs, with so many Ticks of 1 and
// Deflates between them at most. Machines that go on alike are gone on with once.
type course struct {
	watch
	t     *testing.T
	c     api.Config
	texts []string
	// At most so many of each.
	most map[string]int
	seen map[[sha256.Size + 2]byte]bool
}

// row is programs all of whose orders are gone through, behind some moves.
type row struct {
	c               api.Config
	ticks, deflates int
	ahead           string
	texts           []string
}

// orders goes through all orders of each row, side by side; all of them together have
// such states, and such turns of headers.
func orders(t *testing.T, states, turns string, rows ...row) {
	all := newWatch()
	courses := make([]*course, len(rows))
	t.Run("rows", func(t *testing.T) {
		for i, x := range rows {
			t.Run(fmt.Sprint(i), func(t *testing.T) {
				t.Parallel()
				l := &course{watch: newWatch(), t: t, c: x.c, texts: x.texts, seen: map[[sha256.Size + 2]byte]bool{}}
				l.most = map[string]int{"+1": x.ticks, "d": x.deflates}
				l.visit(l.behind(x.ahead, nil), x.ahead, nil)
				t.Logf("%d machines: %v, %v", len(l.seen), l.states, l.turns)
				courses[i] = l
			})
		}
	})
	for _, l := range courses {
		if l == nil {
			return
		}
		for name, n := range l.states {
			all.states[name] += n
		}
		for name, n := range l.turns {
			all.turns[name] += n
		}
	}
	if l := append(all.lacks(all.states, states), all.lacks(all.turns, turns)...); len(l) > 0 {
		t.Errorf("never was seen %q, but %v, %v", l, all.states, all.turns)
	}
}

// behind is a new machine behind some moves.
func (l *course) behind(ahead string, path []string) *core.Machine {
	m := made(l.t, l.c, l.texts...)
	does(l.t, m, ahead)
	for _, move := range path {
		plainMove(m, move)
	}
	return m
}

// visit goes on with a machine in all ways, if none like it was gone on with.
func (l *course) visit(m *core.Machine, ahead string, path []string) {
	var key [sha256.Size + 2]byte
	sum := fingerprint(m)
	copy(key[:], sum[:])
	var moves []string
	for _, thread := range m.Runnable() {
		moves = append(moves, strconv.Itoa(thread))
	}
	for i, move := range []string{"+1", "d"} {
		n := many(path, move)
		key[sha256.Size+i] = byte(n)
		if n < l.most[move] {
			moves = append(moves, move)
		}
	}
	if l.seen[key] {
		return
	}
	l.seen[key] = true
	for i, move := range moves {
		next := m
		if i < len(moves)-1 {
			next = l.behind(ahead, path)
		}
		if wrong := l.move(next, move); wrong != "" {
			l.t.Fatalf("%+v, %q, behind %s %v, %s: %s\n%s", l.c, l.texts, ahead, path, move, wrong, logText(next))
		}
		l.visit(next, ahead, append(slices.Clone(path), move))
	}
}

// many is how often a move is on a path.
func many(path []string, move string) int {
	n := 0
	for _, x := range path {
		if x == move {
			n++
		}
	}
	return n
}

// small is a configuration of so many threads, objects and slots.
func small(threads, objects, slots int) api.Config {
	return with(least(threads), func(c *api.Config) { c.Objects, c.Slots = objects, slots })
}

// P22.3 to P22.5: all orders of the steps of two threads that enter, leave and hash.
func TestOrdersOfTwo(t *testing.T) {
	const once, twice, hash = "enter 0; exit 0", "enter 0; enter 0; exit 0; exit 0", "hash 0"
	spin := func(c api.Config) api.Config { c.Spin, c.Count = 2, 1; return c }
	policy := func(c api.Config) api.Config { c.Rebias, c.Revoke = 1, 2; return biased(c) }
	orders(t, "neutral,neutral hashed,thin owned,thin owned hashed,biased,biased owned,0 owned,0 owned hashed,fat,fat owned,fat hashed,fat owned hashed",
		"neutral to thin,neutral to thin hashed,thin to neutral,thin to neutral hashed,thin to 0,thin to 0 hashed,0 to fat,0 to fat hashed,fat to neutral,fat to neutral hashed,biased to neutral,biased to thin",
		row{small(2, 1, 1), 0, 2, "", []string{once, twice}},
		row{small(2, 1, 2), 0, 1, "", []string{twice, "try 0; exit 0; try 0"}},
		row{spin(small(2, 1, 2)), 0, 1, "", []string{twice, once}},
		row{small(2, 1, 1), 0, 2, "", []string{once + "; " + hash, "hash 0; enter 0"}},
		row{small(2, 1, 2), 0, 2, "1!", []string{hash + "; " + twice, "hash 0; hash 0"}},
		row{biased(small(2, 1, 1)), 0, 2, "", []string{twice, once}},
		row{biased(small(2, 1, 1)), 0, 1, "", []string{"enter 0; hash 0; exit 0", hash + "; " + once}},
		row{policy(small(2, 2, 2)), 0, 1, "", []string{"enter 0; enter 1; exit 1; exit 0", "hash 1; hash 0"}},
		row{policy(small(2, 2, 1)), 0, 1, "0<1", []string{"enter 1; exit 1; enter 0; hash 1", "enter 0; exit 0; try 1"}},
		row{small(2, 2, 1), 0, 1, "", []string{"enter 0; enter 1; exit 1; exit 0", "enter 1; exit 1; hash 0"}},
	)
}

// P22.3 to P22.5: so of two of whom one waits, or both.
func TestOrdersOfTwoThatWait(t *testing.T) {
	const wait, waitFor = "enter 0; wait 0; exit 0", "enter 0; wait 0 1; exit 0"
	spin := func(c api.Config) api.Config { c.Spin = 1; return c }
	orders(t, "fat,fat owned,fat waited,fat owned waited,fat waited hashed,fat owned waited hashed,thin owned,0 owned,biased owned,past",
		"thin to 0,0 to fat,fat to neutral,fat to neutral hashed,biased to thin",
		row{small(2, 1, 2), 0, 1, "", []string{wait, "enter 0; notify 0; exit 0"}},
		row{small(2, 1, 1), 1, 1, "", []string{waitFor, "enter 0; hash 0; notify 0; exit 0"}},
		row{biased(small(2, 1, 1)), 1, 1, "", []string{waitFor, "enter 0; all 0; exit 0"}},
		row{spin(small(2, 1, 2)), 0, 1, "", []string{"enter 0; " + wait, "hash 0; interrupt 0"}},
		row{small(2, 1, 2), 0, 0, "", []string{wait, "interrupt 0; enter 0; notify 0; exit 0"}},
		row{small(2, 1, 2), 1, 0, "", []string{waitFor, waitFor}},
		row{small(2, 1, 2), 1, 0, "0>1", []string{waitFor, "interrupt 0; enter 0; all 0; exit 0"}},
	)
}

// P22.3 to P22.5: so of three threads.
func TestOrdersOfThree(t *testing.T) {
	const once, wait, waitFor = "enter 0; exit 0", "enter 0; wait 0", "enter 0; wait 0 1; exit 0"
	policy := func(c api.Config) api.Config { c.Rebias, c.Revoke = 1, 2; return biased(c) }
	orders(t, "fat,fat owned,fat waited,fat owned waited,fat owned hashed,thin owned hashed,neutral hashed,0 owned hashed,biased owned",
		"thin to 0,thin to 0 hashed,0 to fat,0 to fat hashed,biased to thin,biased to neutral",
		row{small(3, 1, 3), 0, 0, "0<0", []string{once, once, "try 0"}},
		row{small(3, 1, 1), 0, 1, "0<0", []string{"enter 0; hash 0; exit 0", "hash 0", "try 0"}},
		row{biased(small(3, 1, 1)), 0, 0, "", []string{once, "try 0", "hash 0"}},
		row{policy(small(3, 2, 1)), 0, 0, "0<0", []string{"enter 0; exit 0", "try 1; exit 1", "hash 0"}},
		row{small(3, 2, 1), 0, 0, "", []string{once, "enter 1", "hash 0"}},
		row{small(3, 1, 3), 0, 0, "2<0 0!", []string{wait, wait, "hash 0; enter 0; all 0; exit 0"}},
		row{small(3, 1, 3), 0, 1, "0!", []string{wait + "; exit 0", "enter 0; notify 0; exit 0", "interrupt 0"}},
		row{small(3, 1, 3), 1, 0, "0! 1!", []string{waitFor, wait, "enter 0; notify 0; exit 0"}},
	)
}
