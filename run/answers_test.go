package run_test

import (
	"math"
	"slices"
	"testing"

	"futtock/api"
	"futtock/core"
	"futtock/run"
)

// told is what an operation told: its number and its error.
type told struct {
	value int
	err   api.Errno
}

// tellsAll tells if the operations of a thread told other things.
func tellsAll(t testing.TB, m *core.Machine, thread int, prog []api.Op, want ...told) {
	t.Helper()
	var l []run.Answer
	for i, x := range want {
		l = append(l, run.Answer{Number: i, Op: prog[i], Value: x.value, Err: x.err})
	}
	if got := run.Answers(m, thread); !slices.Equal(got, l) {
		t.Errorf("the answers of %d are\n%v, not\n%v", thread, got, l)
	}
}

// ok is what tells of no number, and no error.
var ok = told{}

// P25.2: what operations of every kind tell, with numbers and errors of each kind.
func TestAnswers(t *testing.T) {
	two := with(least(2), func(c *api.Config) { c.Objects, c.Slots = 2, 2 })
	one := with(least(2), func(c *api.Config) { c.Objects = 2 })
	for _, x := range []struct {
		name     string
		c        api.Config
		schedule string
		texts    []string
		first    []told
		second   []told
	}{
		{"one who owns nothing", two, "0*60", []string{"exit 1; wait 1 7; notify 0; all 0; holds 1; hash 1; try 0; holds 0"},
			[]told{{0, api.ErrState}, {0, api.ErrState}, {-1, api.ErrState}, {0, api.ErrState}, {0, 0}, {5, 0}, {0, 0}, {1, 0}}, nil},
		{"one who owns it too often", two, "0*60", []string{"enter 0; enter 0; try 0; enter 0; try 0; exit 0; holds 0"},
			[]told{ok, ok, ok, {0, api.ErrOver}, {0, api.ErrOver}, ok, {1, 0}}, nil},
		{"hashes", two, "0*60", []string{"hash 0; hash 1; hash 0; enter 0; hash 0; enter 1; hash 1"},
			[]told{{5, 0}, {secondOf5, 0}, {5, 0}, ok, {5, 0}, ok, {secondOf5, 0}}, nil},
		{"one who is busy", two, "0*5 1*30", []string{"enter 0; exit 0", "try 0; holds 0; exit 0; try 1"},
			[]told{ok}, []told{{0, api.ErrBusy}, {0, 0}, {0, api.ErrState}, ok}},
		{"no slot", one, "0*5 1*60 0*40", []string{"enter 0; wait 0 1; exit 0", "enter 1; hash 1; enter 0"},
			[]told{ok, {0, api.ErrOut}, ok}, []told{ok, {5, 0}, {0, api.ErrOut}}},
		{"one who is told", two, "0*20 1*60 0*30", []string{"enter 0; wait 0; exit 0", "enter 0; notify 0; notify 0; all 0; exit 0"},
			[]told{ok, ok, ok}, []told{ok, {0, 0}, {-1, 0}, {0, 0}, ok}},
		{"one of all", two, "0*20 1*60 0*30", []string{"enter 0; wait 0; exit 0", "enter 0; all 0; all 0; exit 0"},
			[]told{ok, ok, ok}, []told{ok, {1, 0}, {0, 0}, ok}},
		{"one who is late", two, "0*20 t4 0 t1 0*30", []string{"enter 0; wait 0 5; exit 0"},
			[]told{ok, {0, api.ErrTime}, ok}, nil},
		{"one who is interrupted", two, "0*20 1*9 0*30", []string{"enter 0; wait 0 5; wait 0 1; exit 0", "interrupt 0"},
			[]told{ok, {0, api.ErrIntr}}, []told{ok}},
		{"one who was interrupted", two, "1*9 0*30", []string{"enter 0; wait 0; exit 0", "interrupt 0; interrupt 1; interrupt 0"},
			[]told{ok, {0, api.ErrIntr}, ok}, []told{ok, ok, ok}},
	} {
		s := scriptOf(t, x.c, x.schedule, x.texts...)
		m := holds(t, s)
		t.Run(x.name, func(t *testing.T) {
			tellsAll(t, m, 0, s.Progs[0], x.first...)
			tellsAll(t, m, 1, s.Progs[1], x.second...)
		})
	}
}

// P25.2: of seven who wait All tells how many it woke, and Notify whom.
func TestAnswersOfMany(t *testing.T) {
	for _, x := range []struct {
		text string
		want []told
	}{
		{"enter 0; all 0; exit 0", []told{ok, {7, 0}, ok}},
		{"enter 0; notify 0; notify 0; all 0; exit 0", []told{ok, {7, 0}, {6, 0}, {5, 0}, ok}},
	} {
		c := least(8)
		schedule := "7*30 6*30 5*30 4*30 3*30 2*30 1*30 0*90"
		wait := "enter 0; wait 0; exit 0"
		s := scriptOf(t, c, schedule, x.text, wait, wait, wait, wait, wait, wait, wait)
		m := holds(t, s)
		tellsAll(t, m, 0, s.Progs[0], x.want...)
		for thread := 1; thread < 8; thread++ {
			tellsAll(t, m, thread, s.Progs[thread], ok)
		}
		if !run.Finish(m, 1000) {
			t.Fatal("they did not end")
		}
		for thread := 1; thread < 8; thread++ {
			tellsAll(t, m, thread, s.Progs[thread], ok, ok, ok)
		}
	}
}

// P25.2: in the midst of a run there are the answers of those that returned by then,
// each from its Return on, and those of each thread by itself.
func TestAnswersInTheMidst(t *testing.T) {
	for _, s := range scripts(t) {
		m, _ := core.New(s.Config, s.Progs)
		for _, x := range s.Turns {
			run.Turn(m, x)
			answersAre(t, m, s.Progs)
			summaryIs(t, m)
		}
	}
	s := scriptOf(t, least(1), "", "enter 0; exit 0")
	m := played(t, s)
	for step := range 9 {
		// Call, header, saved, CAS, Return; Call, header, saved, CAS, Return.
		want := map[bool][]told{true: {ok}}[step >= 5]
		tellsAll(t, m, 0, s.Progs[0], want...)
		run.Turn(m, turns(t, "0")[0])
	}
	run.Turn(m, turns(t, "0")[0])
	tellsAll(t, m, 0, s.Progs[0], ok, ok)
}

// P25.2: an operation is as its thread's program has it, the Arg of a Wait and of an
// Interrupt with it.
func TestAnswersHaveOperations(t *testing.T) {
	c := with(greatest(), func(c *api.Config) { c.Bias = 0 })
	s := scriptOf(t, c, "", "wait 7 65535; wait 3; interrupt 7; holds 6; interrupt 0; exit 5; wait 0 1", "interrupt 5; holds 2")
	m := played(t, s)
	if !run.Finish(m, 100) {
		t.Fatal("they did not end")
	}
	no := told{0, api.ErrState}
	tellsAll(t, m, 0, s.Progs[0], no, no, ok, ok, ok, no, no)
	tellsAll(t, m, 1, s.Progs[1], ok, ok)
}

// P25.2: threads that there are not have no answers.
func TestAnswersOfNoThread(t *testing.T) {
	m := played(t, scriptOf(t, least(2), "", "enter 0; exit 0", "holds 0"))
	run.Finish(m, 100)
	for _, none := range []int{-1, 2, 3, 8, math.MinInt, math.MaxInt} {
		if l := run.Answers(m, none); len(l) != 0 {
			t.Errorf("answers of %d: %v", none, l)
		}
	}
}
