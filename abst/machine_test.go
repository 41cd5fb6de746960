package abst_test

import (
	"fmt"
	"slices"
	"strconv"
	"strings"
	"testing"

	"futtock/abst"
	"futtock/api"
	"futtock/core"
	"futtock/ghost"
	"futtock/op"
	"futtock/word"
)

// Seeds by the first hash of each.
const (
	seedOf1    = 0xfec6bf5275d3ab66
	seedOf5    = 0x12940ac8860cfef
	seedOfMost = 0x5463ea475d9b2aa5
)

// mostHash is the greatest hash.
const mostHash = 1<<31 - 1

// Layer 20's cells, written out.
const (
	protoCell = 8
	lockCell  = 16
	dispCell  = 32
	stateCell = 48
	savedCell = 64
)

// least is a small configuration of so many threads, whose first hash is 5.
func least(threads int) api.Config {
	return api.Config{Threads: threads, Objects: 1, Classes: 1, Slots: 1, Count: 3, Rebias: 100, Revoke: 100, Seed: seedOf5}
}

// with is a configuration that was turned.
func with(c api.Config, turn func(c *api.Config)) api.Config {
	turn(&c)
	return c
}

// biased is a configuration whose objects begin biased.
func biased(c api.Config) api.Config {
	c.Bias = 255
	return c
}

// greatest is the configuration of as many of each as there may be.
func greatest() api.Config {
	return api.Config{Threads: 8, Objects: 8, Classes: 4, Slots: 16, Count: 60, Rebias: 100, Revoke: 100, Seed: seedOf5}
}

// made is a machine of programs' texts; those that are missing are empty.
func made(t testing.TB, c api.Config, texts ...string) *core.Machine {
	t.Helper()
	progs := make([][]api.Op, c.Threads)
	for i, text := range texts {
		prog, err := op.Parse(text)
		if err != api.OK {
			t.Fatalf("%q is no program: %d", text, err)
		}
		progs[i] = prog
	}
	m, err := core.New(c, progs)
	if err != api.OK {
		t.Fatalf("New of %+v, %q is %d", c, texts, err)
	}
	return m
}

// does does moves, which stand apart by blanks: "0*3" picks the thread 0 three times
// ("0": once); "0<2" till it returned from its operation 2, "0>2" till it called that,
// "0!" as long as it goes on; "+3" is a Tick, "d" a Deflate, "?" a Pick of nobody.
func does(t testing.TB, m *core.Machine, moves string) {
	t.Helper()
	for _, move := range strings.Fields(moves) {
		if !comesTo(m, move) {
			t.Fatalf("%q of %q does not come to its end:\n%s", move, moves, logText(m))
		}
	}
}

// comesTo does a move, and tells whether it came to its end.
func comesTo(m *core.Machine, move string) bool {
	switch move[0] {
	case 'd':
		m.Deflate()
		return true
	case '?':
		m.Pick(-1)
		return true
	case '+':
		n, _ := strconv.Atoi(move[1:])
		m.Tick(int64(n))
		return true
	}
	how := move[1:]
	if how == "" {
		how = "*1"
	}
	n, _ := strconv.Atoi(how[1:])
	return picks(m, int(move[0]-'0'), how[0], n)
}

// picks picks a thread, and tells whether it came to what was told.
func picks(m *core.Machine, thread int, how byte, number int) bool {
	for i := range 1000 {
		switch {
		case how == '*' && i == number, how == '<' && has(m, ghost.Return, thread, number), how == '>' && has(m, ghost.Call, thread, number):
			return true
		case !m.Pick(thread):
			return how == '!'
		}
	}
	return false
}

// has tells whether a log has a thread's Call, or Return, of an operation's number.
func has(m *core.Machine, kind, thread, number int) bool {
	return slices.ContainsFunc(m.Log(), func(e ghost.Entry) bool {
		return e.Kind == kind && e.Thread == thread && e.Number == number
	})
}

// logText is a machine's log as a text.
func logText(m *core.Machine) string {
	text := ""
	for _, e := range m.Log() {
		text += fmt.Sprintf("%+v\n", e)
	}
	return text
}

// headerText is an object's header as a text: of a Fat one with the threads of the
// slot's ring, in order.
func headerText(m *core.Machine, obj int) string {
	h, err := word.Read(m.Header(obj))
	switch {
	case err != api.OK:
		return "none"
	case h.Kind == word.Neutral:
		return "neutral"
	case h.Kind == word.Thin:
		return fmt.Sprintf("thin t%d", h.Owner-1)
	case h.Kind == word.Biased && h.Owner == 0:
		return fmt.Sprintf("biased e%d", h.Epoch)
	case h.Kind == word.Biased:
		return fmt.Sprintf("biased e%d t%d", h.Epoch, h.Owner-1)
	case h.Kind == word.Inflating:
		return "0"
	}
	var ring []int
	for _, w := range m.Ring(int(h.Slot)) {
		ring = append(ring, w.Thread)
	}
	return fmt.Sprintf("fat %d %v", h.Slot, ring)
}

// text is a state as a text: its owner, how often that owns it, who waits, its hash.
func text(s abst.State) string {
	return fmt.Sprintf("%d x%d %v #%d", s.Owner, s.Count, s.Waiters, s.Hash)
}

// shows tells if an object's header, or its state, is another one than written.
func shows(t testing.TB, m *core.Machine, obj int, header, state string) {
	t.Helper()
	if got := headerText(m, obj); got != header {
		t.Errorf("behind %d steps the header of %d is %q, not %q", m.Steps(), obj, got, header)
	}
	s, ok := abst.Of(m, obj)
	if got := text(s); got != state || !ok {
		t.Errorf("behind %d steps Of %d is %s, %v, not %s", m.Steps(), obj, got, ok, state)
	}
	meant := abst.Model(m, obj)
	if got := text(meant); got != state {
		t.Errorf("behind %d steps Model of %d is %s, not %s", m.Steps(), obj, got, state)
	}
	all := abst.All(m)
	if len(all) != m.Config().Objects || text(all[obj]) != state {
		t.Errorf("behind %d steps All is %+v, with %s at %d not", m.Steps(), all, state, obj)
	}
	if !abst.Same(s, meant) || !abst.Agrees(m) {
		t.Errorf("behind %d steps Same is %v, Agrees %v", m.Steps(), abst.Same(s, meant), abst.Agrees(m))
	}
}

// follows does the moves of rows, each of which has an object's header and its state
// behind them, and tells of those that have other ones.
func follows(t testing.TB, m *core.Machine, obj int, rows string) {
	t.Helper()
	for _, row := range strings.Split(strings.TrimSpace(rows), "\n") {
		part := strings.Split(row, "|")
		if len(part) != 3 {
			t.Fatalf("%q is no row", row)
		}
		does(t, m, part[0])
		shows(t, m, obj, strings.TrimSpace(part[1]), strings.TrimSpace(part[2]))
	}
}
