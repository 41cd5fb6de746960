package core_test

import (
	"fmt"
	"slices"
	"strconv"
	"testing"

	"futtock/api"
	"futtock/core"
	"futtock/ghost"
	"futtock/model"
	"futtock/ring"
)

// course is all orders of the steps of some programs, and of so many Ticks of 1 and
// Deflates between them at most. Machines that go on alike are gone on with once.
type course struct {
	t        *testing.T
	config   api.Config
	progs    [][]api.Op
	ticks    int
	deflates int
	seen     map[string]bool
	// told counts what was noted: transitions with their errors.
	told map[string]int
	ends int
}

// orders goes through all orders of such programs, behind some moves.
func orders(t *testing.T, c api.Config, ticks, deflates int, path []string, texts ...string) *course {
	t.Helper()
	l := &course{t: t, config: c, progs: progs(t, texts...), ticks: ticks, deflates: deflates, seen: map[string]bool{}, told: map[string]int{}}
	l.visit(l.behind(path), path)
	return l
}

// has tells if transitions were never told, of those that are named.
func (l *course) has(names ...string) {
	l.t.Helper()
	for _, name := range names {
		if l.told[name] == 0 {
			l.t.Errorf("%v: never was told %q, but %v", l.progs, name, l.told)
		}
	}
}

// hasNot tells if transitions were told, of those that are named.
func (l *course) hasNot(names ...string) {
	l.t.Helper()
	for _, name := range names {
		if l.told[name] > 0 {
			l.t.Errorf("%v: %q was told %d times", l.progs, name, l.told[name])
		}
	}
}

// behind is a new machine behind some moves.
func (l *course) behind(path []string) *core.Machine {
	m, err := core.New(l.config, l.progs)
	if err != api.OK {
		l.t.Fatal(err)
	}
	for _, move := range path {
		plainMove(m, move)
	}
	return m
}

// plainMove does a move and looks at nothing.
func plainMove(m *core.Machine, move string) {
	switch move {
	case "d":
		m.Deflate()
	case "+1":
		m.Tick(1)
	default:
		n, _ := strconv.Atoi(move)
		m.Pick(n)
	}
}

// moves are those that may be done next.
func (l *course) moves(m *core.Machine, path []string) []string {
	var moves []string
	for _, t := range m.Runnable() {
		moves = append(moves, strconv.Itoa(t))
	}
	if many(path, "+1") < l.ticks {
		moves = append(moves, "+1")
	}
	if many(path, "d") < l.deflates {
		moves = append(moves, "d")
	}
	return moves
}

// many is how often a move is on a path.
func many(path []string, move string) int {
	n := 0
	for _, x := range path {
		if x == move {
			n++
		}
	}
	return n
}

// visit looks at a machine behind a path, and goes on with it.
func (l *course) visit(m *core.Machine, path []string) {
	l.t.Helper()
	if wrong := unsound(m); wrong != "" {
		l.t.Fatalf("%v of %v, behind %v: %s", l.progs, l.config, path, wrong)
	}
	print := fmt.Sprint(m.Fingerprint(), many(path, "+1"), many(path, "d"))
	if l.seen[print] {
		return
	}
	l.seen[print] = true
	moves := l.moves(m, path)
	if len(m.Runnable()) == 0 {
		l.end(l.behind(path), path)
	}
	for i, move := range moves {
		next := m
		if i < len(moves)-1 {
			next = l.behind(path)
		}
		before := seen(next)
		plainMove(next, move)
		if wrong := before.wrong(next, move); wrong != "" {
			l.t.Fatalf("%v of %v, behind %v, %s: %s\n%s", l.progs, l.config, path, move, wrong, logText(next))
		}
		l.count(next.Log()[before.entries:])
		l.visit(next, append(slices.Clone(path), move))
	}
}

// count counts what was noted.
func (l *course) count(noted []ghost.Entry) {
	for _, e := range noted {
		if x := e.Event; e.Kind == ghost.Commit {
			l.told[kinds[x.Kind]+" "+errs[x.Err]]++
			if x.Kind == model.Notify && x.Err == api.OK && x.Arg < 0 {
				l.told["notify nobody"]++
			}
		}
	}
}

// end looks at a machine of which nobody may go on.
func (l *course) end(m *core.Machine, path []string) {
	l.t.Helper()
	l.ends++
	// What was asked for is done ahead of the next step, be there none.
	m.Pick(-1)
	if wrong := unsound(m); wrong != "" {
		l.t.Fatalf("%v of %v, behind %v: %s", l.progs, l.config, path, wrong)
	}
	if wrong := wrongEnd(m); wrong != "" {
		l.t.Fatalf("%v of %v, behind %v: %s\n%s", l.progs, l.config, path, wrong, logText(m))
	}
}

// wrongEnd is what is wrong with a machine of which nobody may go on: a thread that
// should. Just those sleep that wait and were not told, or want what another one owns
// that ended or sleeps itself.
func wrongEnd(m *core.Machine) string {
	if m.Wanted() {
		return "something is asked for, and nobody may go on"
	}
	meant := m.Ghost().Model()
	for t := range m.Config().Threads {
		o, open := m.Ghost().Open(t)
		switch {
		case m.Ended(t) && open:
			return fmt.Sprintf("%d ended, and does %v", t, o)
		case m.Ended(t):
		case !m.Asleep(t) || !open:
			return fmt.Sprintf("%d may not go on, and does not sleep", t)
		case o.Kind == 4 && m.Word(stateCell+t) == ring.Waiting:
			if slices.IndexFunc(m.Ring(slotOf(m, o.Obj)), func(w ring.Waiter) bool { return w.Thread == t }) < 0 {
				return fmt.Sprintf("%d waits, and is not in the ring", t)
			}
			if m.Flag(t) {
				return fmt.Sprintf("%d waits, and was interrupted", t)
			}
		case meant.Owner(o.Obj) < 0 || meant.Owner(o.Obj) == t:
			return fmt.Sprintf("%d sleeps, and its object's owner is %d", t, meant.Owner(o.Obj))
		}
	}
	return ""
}

// slotOf is the slot of an object's Fat header.
func slotOf(m *core.Machine, obj int) int {
	for _, p := range m.Pairs() {
		if p.Obj == obj {
			return p.Slot
		}
	}
	return -1
}

// view is what was seen of a machine ahead of a move.
type view struct {
	words   [128]uint64
	meant   *model.Model
	entries int
	steps   int
	rounds  int
	now     int64
	pending bool
	may     []int
}

// seen is what is seen of a machine.
func seen(m *core.Machine) view {
	v := view{meant: m.Ghost().Model(), entries: m.Ghost().Len(), steps: m.Steps(), rounds: m.Rounds(), now: m.Now(), may: m.Runnable()}
	for a := range v.words {
		v.words[a] = m.Word(a)
	}
	return v
}

// wrong is what is wrong with a machine behind a move, held against what was seen
// ahead of it.
func (v view) wrong(m *core.Machine, move string) string {
	is := seen(m)
	if wrong := v.wrongTurns(is, move); wrong != "" {
		return wrong
	}
	isPick := move != "d" && move != "+1"
	switch {
	case isPick && is.steps != v.steps+1:
		return fmt.Sprintf("%d steps, not %d", is.steps, v.steps+1)
	case !isPick && (is.steps != v.steps || is.entries != v.entries):
		return fmt.Sprintf("%d steps and %d entries, not %d and %d", is.steps, is.entries, v.steps, v.entries)
	case is.entries < v.entries:
		return "the log is shorter"
	case move == "+1" && is.now != v.now+1 || move != "+1" && is.now != v.now:
		return fmt.Sprintf("the time was %d, and is %d", v.now, is.now)
	}
	return ""
}

// wrongTurns is what is wrong with what was turned: more than one cell of a step,
// the meaning of more than one object, a hash that was there, a state that does not
// come of the one that was.
func (v view) wrongTurns(is view, move string) string {
	cells := 0
	for a, w := range is.words {
		if w == v.words[a] {
			continue
		}
		cells++
		if a >= stateCell && a < nextCell && !ring.Goes(v.words[a], w) {
			return fmt.Sprintf("the state at %d was %d, and is %d", a, v.words[a], w)
		}
	}
	isPick := move != "d" && move != "+1"
	if isPick && is.rounds == v.rounds && cells > 1 || move == "+1" && cells > 0 {
		return fmt.Sprintf("%d cells were turned", cells)
	}
	objects := 0
	for o := range api.MaxObjects {
		if h := v.meant.Hash(o); h != 0 && is.meant.Hash(o) != h {
			return fmt.Sprintf("the hash of %d was %d, and is %d", o, h, is.meant.Hash(o))
		}
		if v.meant.Owner(o) != is.meant.Owner(o) || v.meant.Count(o) != is.meant.Count(o) || v.meant.Hash(o) != is.meant.Hash(o) ||
			!slices.Equal(v.meant.Waiters(o), is.meant.Waiters(o)) {
			objects++
		}
	}
	if isPick && objects > 1 || !isPick && objects > 0 {
		return fmt.Sprintf("%d objects were turned", objects)
	}
	return ""
}
