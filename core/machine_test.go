package core_test

import (
	"fmt"
	"slices"
	"strings"
	"testing"

	"futtock/api"
	"futtock/core"
	"futtock/ghost"
	"futtock/model"
	"futtock/op"
	"futtock/word"
)

// least is the least configuration of so many threads, with room for two owners' counts.
func least(threads int) api.Config {
	return api.Config{Threads: threads, Objects: 1, Classes: 1, Slots: 1, Count: 2, Rebias: 100, Revoke: 100}
}

// with is a configuration that was turned.
func with(c api.Config, turn func(c *api.Config)) api.Config {
	turn(&c)
	return c
}

// progs are programs out of their texts.
func progs(t testing.TB, texts ...string) [][]api.Op {
	t.Helper()
	var all [][]api.Op
	for _, text := range texts {
		prog, err := op.Parse(text)
		if err != api.OK {
			t.Fatalf("%q is no program: %d", text, err)
		}
		all = append(all, prog)
	}
	return all
}

// made is a machine of programs' texts.
func made(t testing.TB, c api.Config, texts ...string) *core.Machine {
	t.Helper()
	m, err := core.New(c, progs(t, texts...))
	if m == nil || err != api.OK {
		t.Fatalf("New of %v, %q is %v, %d", c, texts, m, err)
	}
	return m
}

// Layer 20's cells, written out.
const (
	protoCell = 8
	lockCell  = 16
	dispCell  = 32
	stateCell = 48
	nextCell  = 56
	savedCell = 64
)

// savedAt is the cell of what a thread saved of an object.
func savedAt(thread, obj int) int { return savedCell + 8*thread + obj }

// errs are the errors' words.
var errs = []string{"ok", "arg", "nil", "form", "end", "many", "none", "there", "full", "state", "over", "out", "intr", "time", "busy", "broken"}

// kinds are the transitions' words.
var kinds = []string{"", "enter", "try", "exit", "begin", "leave", "end", "wake", "notify", "all", "hash", "holds", "interrupt"}

// line is an entry as a text.
func line(e ghost.Entry) string {
	switch e.Kind {
	case ghost.Call:
		text, _ := op.Text([]api.Op{e.Op})
		return fmt.Sprintf("t%d call %d %s", e.Thread, e.Number, text)
	case ghost.Commit:
		x := e.Event
		return fmt.Sprintf("t%d commit %s %d %d %s", x.Thread, kinds[x.Kind], x.Obj, x.Arg, errs[x.Err])
	case ghost.Return:
		return fmt.Sprintf("t%d return %d %d %s", e.Thread, e.Number, e.Value, errs[e.Err])
	}
	return fmt.Sprintf("%+v", e)
}

// headerText is a header's word as a text.
func headerText(w uint64) string {
	h, err := word.Read(w)
	switch {
	case err != api.OK:
		return fmt.Sprintf("none %#x", w)
	case h.Kind == word.Thin:
		return fmt.Sprintf("thin t%d r%d", int(h.Owner)-1, h.Record)
	case h.Kind == word.Neutral:
		return fmt.Sprintf("neutral #%d", h.Hash)
	case h.Kind == word.Fat:
		return fmt.Sprintf("fat %d.%d", h.Slot, h.Gen)
	case h.Kind == word.Biased && h.Owner == 0:
		return fmt.Sprintf("biased e%d", h.Epoch)
	case h.Kind == word.Biased:
		return fmt.Sprintf("biased e%d t%d", h.Epoch, h.Owner-1)
	}
	return "0"
}

// lockText is a lock word as a text: its owner, and its head.
func lockText(w uint64) string {
	name := func(n uint64) string {
		if n == 0 {
			return "-"
		}
		return fmt.Sprintf("t%d", n-1)
	}
	if w>>32 != 0 {
		return fmt.Sprintf("none %#x", w)
	}
	return name(w&0xffff) + "/" + name(w>>16)
}

// cellText is a cell as a text: its name, and what stands there.
func cellText(a int, w uint64) (string, string) {
	switch {
	case a < protoCell:
		return fmt.Sprintf("h%d", a), headerText(w)
	case a < lockCell:
		return fmt.Sprintf("p%d", a-protoCell), headerText(w)
	case a < dispCell:
		return fmt.Sprintf("lock%d", a-lockCell), lockText(w)
	case a < stateCell:
		return fmt.Sprintf("disp%d", a-dispCell), headerText(w)
	case a < nextCell:
		return fmt.Sprintf("state%d", a-stateCell), fmt.Sprint(w)
	case a < savedCell:
		return fmt.Sprintf("next%d", a-nextCell), fmt.Sprint(w)
	}
	return fmt.Sprintf("saved%d.%d", (a-savedCell)/8, (a-savedCell)%8), headerText(w)
}

// tells is one thing that a machine tells, with its name.
type tells struct{ name, text string }

// all is all that a machine tells, but its log and its steps.
func all(m *core.Machine) []tells {
	var l []tells
	add := func(name string, text ...any) { l = append(l, tells{name, strings.TrimSpace(fmt.Sprintln(text...))}) }
	for a := range 128 {
		name, text := cellText(a, m.Word(a))
		add(name, text)
	}
	c := m.Config()
	for o := range c.Objects {
		for t := range c.Threads {
			add(fmt.Sprintf("records%d.%d", t, o), m.Records(t, o))
		}
	}
	for t := range c.Threads {
		add(fmt.Sprintf("ended%d", t), m.Ended(t))
		add(fmt.Sprintf("asleep%d", t), m.Asleep(t))
		add(fmt.Sprintf("flag%d", t), m.Flag(t))
	}
	for s := range c.Slots {
		add(fmt.Sprintf("entry%d", s), m.Entry(s))
		add(fmt.Sprintf("ring%d", s), m.Ring(s))
	}
	for i, x := range m.Classes() {
		add(fmt.Sprintf("class%d", i), fmt.Sprintf("%v e%d %d", x.Biased, x.Epoch, x.Count))
	}
	add("pairs", m.Pairs())
	add("used", m.Used())
	add("left", m.Left())
	add("wanted", m.Wanted())
	add("rounds", m.Rounds())
	add("now", m.Now())
	add("broken", m.Broken())
	return l
}

// turned are those things that a machine tells otherwise than it did.
func turned(was, is []tells) []string {
	var l []string
	for i, x := range is {
		if x != was[i] {
			l = append(l, x.name+" "+x.text)
		}
	}
	return l
}

// do does a move, and tells what came of it: what was noted, and what is told
// otherwise, in the order of all. A move is a thread's number (a Pick of it), "+" and
// a number (a Tick), or "d" (a Deflate). What a Pick did not do begins with "no".
func do(m *core.Machine, move string) string {
	was, noted := all(m), len(m.Log())
	var l []string
	switch {
	case move == "d":
		m.Deflate()
	case move[0] == '+':
		n := 0
		fmt.Sscan(move[1:], &n)
		m.Tick(int64(n))
	default:
		t := 0
		fmt.Sscan(move, &t)
		if !m.Pick(t) {
			l = append(l, "no")
		}
	}
	for _, e := range m.Log()[noted:] {
		l = append(l, line(e))
	}
	return strings.Join(append(l, turned(was, all(m))...), "; ")
}

// follows does moves, each of which has what is to come of it behind a colon, and
// tells of those of which something else came. Behind each move all is sound.
func follows(t *testing.T, m *core.Machine, moves string) {
	t.Helper()
	for _, x := range strings.Split(strings.TrimSpace(moves), "\n") {
		move, want, there := strings.Cut(strings.TrimSpace(x), ":")
		if !there {
			continue
		}
		got := do(m, move)
		if got != strings.TrimSpace(want) {
			t.Errorf("behind %d steps, %s: %s\nnot:\n%s", m.Steps(), move, got, strings.TrimSpace(want))
		}
		if wrong := unsound(m); wrong != "" {
			t.Errorf("behind %d steps: %s", m.Steps(), wrong)
		}
	}
}

// picks picks a thread until it did so many steps, and tells if it cannot.
func picks(t *testing.T, m *core.Machine, thread, many int) {
	t.Helper()
	for i := range many {
		if !m.Pick(thread) {
			t.Fatalf("%d cannot do its step %d of %d", thread, i, many)
		}
	}
}

// exhaust picks a thread as long as it goes on, at most a thousand times.
func exhaust(m *core.Machine, thread int) int {
	n := 0
	for n < 1000 && m.Pick(thread) {
		n++
	}
	return n
}

// calls picks a thread until it began its operation of a number, and not a step more.
func calls(t *testing.T, m *core.Machine, thread, number int) {
	t.Helper()
	for range 1000 {
		if slices.ContainsFunc(m.Log(), func(e ghost.Entry) bool {
			return e.Kind == ghost.Call && e.Thread == thread && e.Number == number
		}) {
			return
		}
		if !m.Pick(thread) {
			t.Fatalf("%d does not come to its operation %d", thread, number)
		}
	}
}

// returns picks a thread until it returned from its operation of a number, and tells
// what that told.
func returns(t *testing.T, m *core.Machine, thread, number int) (int, api.Errno) {
	t.Helper()
	for range 1000 {
		if e, ok := returned(m, thread, number); ok {
			return e.Value, e.Err
		}
		if !m.Pick(thread) {
			t.Fatalf("%d does not return from its operation %d: %s", thread, number, logText(m))
		}
	}
	t.Fatalf("%d does not return from its operation %d: %s", thread, number, logText(m))
	return 0, api.OK
}

// returned is the Return of a thread's operation, and whether there is one.
func returned(m *core.Machine, thread, number int) (ghost.Entry, bool) {
	for _, e := range m.Log() {
		if e.Kind == ghost.Return && e.Thread == thread && e.Number == number {
			return e, true
		}
	}
	return ghost.Entry{}, false
}

// until picks a thread until something holds, and tells if it never does.
func until(t *testing.T, m *core.Machine, thread int, holds func() bool) {
	t.Helper()
	for range 1000 {
		if holds() {
			return
		}
		if !m.Pick(thread) {
			break
		}
	}
	if !holds() {
		t.Fatalf("picking %d does not bring it about: %s", thread, logText(m))
	}
}

// logText is a machine's log as a text.
func logText(m *core.Machine) string {
	var l []string
	for _, e := range m.Log() {
		l = append(l, line(e))
	}
	return strings.Join(l, "\n")
}

// commits are the commits of a log of some kind, as texts.
func commits(m *core.Machine, kinds ...int) []model.Event {
	var l []model.Event
	for _, e := range m.Log() {
		if e.Kind == ghost.Commit && slices.Contains(kinds, e.Event.Kind) {
			l = append(l, e.Event)
		}
	}
	return l
}
