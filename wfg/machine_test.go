package wfg_test

import (
	"fmt"
	"slices"
	"strconv"
	"strings"
	"testing"

	"futtock/abst"
	"futtock/api"
	"futtock/core"
	"futtock/ghost"
	"futtock/op"
	"futtock/wfg"
)

// stateCell is the first cell of those of the threads' states, and waiting the state of
// one who waits to be told, as layers 20 and 13 have them.
const (
	stateCell = 48
	waiting   = 1
)

// small is a configuration of so many threads and objects, with a slot for each object.
func small(threads, objects int) api.Config {
	return api.Config{Threads: threads, Objects: objects, Classes: 1, Slots: objects, Count: 3, Rebias: 100, Revoke: 100}
}

// made is a machine of programs' texts; those that are missing are empty.
func made(t testing.TB, c api.Config, texts ...string) *core.Machine {
	t.Helper()
	progs := make([][]api.Op, c.Threads)
	for i, text := range texts {
		prog, err := op.Parse(text)
		if err != api.OK {
			t.Fatalf("%q is no program: %d", text, err)
		}
		progs[i] = prog
	}
	m, err := core.New(c, progs)
	if err != api.OK {
		t.Fatalf("New of %+v, %q is %d", c, texts, err)
	}
	return m
}

// does does moves, which stand apart by blanks: "0*3" picks the thread 0 three times
// ("0": once); "0<2" till it returned from its operation 2, "0!" as long as it goes on;
// "+3" is a Tick, "d" a Deflate.
func does(t testing.TB, m *core.Machine, moves string) {
	t.Helper()
	for move := range strings.FieldsSeq(moves) {
		if !comesTo(m, move) {
			t.Fatalf("%q of %q does not come to its end:\n%+v", move, moves, m.Log())
		}
	}
}

// comesTo does a move, and tells whether it came to its end.
func comesTo(m *core.Machine, move string) bool {
	switch move[0] {
	case 'd':
		m.Deflate()
		return true
	case '+':
		n, _ := strconv.Atoi(move[1:])
		m.Tick(int64(n))
		return true
	}
	thread, how := int(move[0]-'0'), move[1:]
	if how == "" {
		how = "*1"
	}
	n, _ := strconv.Atoi(how[1:])
	for i := range 1000 {
		switch {
		case how[0] == '*' && i == n, how[0] == '<' && returns(m, thread) > n:
			return true
		case !m.Pick(thread):
			return how[0] == '!'
		}
	}
	return false
}

// returns is how many of a thread's operations returned.
func returns(m *core.Machine, thread int) int {
	many := 0
	for _, e := range m.Log() {
		if e.Kind == ghost.Return && e.Thread == thread {
			many++
		}
	}
	return many
}

// list is a list of threads as a text.
func list(l []int) string {
	return strings.Trim(fmt.Sprint(l), "[]")
}

// follows does the moves of rows, each of which has a machine's graph and who is stuck
// behind them, and tells of those that have others.
func follows(t testing.TB, m *core.Machine, rows string) {
	t.Helper()
	for row := range strings.SplitSeq(strings.TrimSpace(rows), "\n") {
		part := strings.Split(row, "|")
		if len(part) != 3 {
			t.Fatalf("%q is no row", row)
		}
		does(t, m, part[0])
		shows(t, m, strings.TrimSpace(part[0]), strings.TrimSpace(part[1]), strings.TrimSpace(part[2]))
	}
}

// shows tells if a machine's graph, or who is stuck, is not as written.
func shows(t testing.TB, m *core.Machine, behind, graph, stuck string) {
	t.Helper()
	g := wfg.Of(m)
	if got := text(g); got != graph {
		t.Errorf("behind %q the graph is %q, not %q", behind, got, graph)
	}
	if got := list(wfg.Stuck(m)); got != stuck {
		t.Errorf("behind %q %q are stuck, not %q", behind, got, stuck)
	}
	if (g == wfg.Graph{}) != (graph == "") || g.Len() != len(strings.Fields(graph)) {
		t.Errorf("behind %q there are %d edges", behind, g.Len())
	}
}

// waitsFor is a second reckoning of whom a thread waits for, by its operation, its state's
// cell, and what the object's words mean: -1 is nobody.
func waitsFor(m *core.Machine, thread int, o api.Op) int {
	switch {
	case !m.Asleep(thread):
		return -1
	case o.Kind == op.Wait && m.Word(stateCell+thread) == waiting:
		return -1
	case o.Kind != op.Wait && o.Kind != op.Enter:
		return -1
	}
	s, _ := abst.Of(m, o.Obj)
	if s.Owner == thread {
		return -1
	}
	return s.Owner
}

// reckoned are a machine's graph, and who is stuck, by that: who goes on from thread to
// thread without an end. Of each thread so many operations returned.
func reckoned(m *core.Machine, progs [][]api.Op, returned []int) ([]edge, []int) {
	var l []edge
	whom := make([]int, len(progs))
	for thread, prog := range progs {
		whom[thread] = -1
		if number := returned[thread]; number < len(prog) {
			whom[thread] = waitsFor(m, thread, prog[number])
		}
		if whom[thread] >= 0 {
			l = append(l, edge{thread, whom[thread]})
		}
	}
	var stuck []int
	for thread := range progs {
		at := thread
		for range len(progs) + 1 {
			if at >= 0 {
				at = whom[at]
			}
		}
		if at >= 0 {
			stuck = append(stuck, thread)
		}
	}
	return l, stuck
}

// agrees tells if a machine's graph, or who is stuck, is not what is reckoned.
func agrees(t testing.TB, m *core.Machine, progs [][]api.Op, returned []int) (wfg.Graph, []int) {
	t.Helper()
	l, stuck := reckoned(m, progs, returned)
	g, got := wfg.Of(m), wfg.Stuck(m)
	if g != graph(t, l) || !slices.Equal(got, stuck) {
		t.Fatalf("the graph is %s, not %v, and %v are stuck, not %v; of %v:\n%+v", text(g), l, got, stuck, progs, m.Log())
	}
	return g, got
}
