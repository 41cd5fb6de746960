package run_test

import (
	"fmt"
	"slices"
	"strconv"
	"strings"
	"testing"

	"futtock/api"
	"futtock/core"
	"futtock/ghost"
	"futtock/op"
	"futtock/run"
	"futtock/script"
)

// The kinds of turns, as the document numbers them.
const (
	pick    = 1
	tick    = 2
	deflate = 3
)

// seedOf5 is a seed whose first hash is 5, and whose second one secondOf5.
const (
	seedOf5   = 0x12940ac8860cfef
	secondOf5 = 1116386629
)

// least is a small configuration of so many threads.
func least(threads int) api.Config {
	return api.Config{Threads: threads, Objects: 1, Classes: 1, Slots: 1, Count: 3, Rebias: 100, Revoke: 100, Seed: seedOf5}
}

// with is a configuration that was turned.
func with(c api.Config, turn func(c *api.Config)) api.Config {
	turn(&c)
	return c
}

// greatest is the configuration of as many of each as there may be.
func greatest() api.Config {
	return api.Config{Threads: 8, Objects: 8, Classes: 4, Slots: 16, Spin: 8, Count: 60, Bias: 255, Rebias: 100, Revoke: 100, Seed: 1<<64 - 1}
}

// progs are so many programs, of texts; those that are missing are empty.
func progs(t testing.TB, many int, texts ...string) [][]api.Op {
	t.Helper()
	l := make([][]api.Op, many)
	for i, text := range texts {
		prog, err := op.Parse(text)
		if err != api.OK {
			t.Fatalf("%q is no program: %d", text, err)
		}
		l[i] = prog
	}
	return l
}

// turns are out of a text of words: "3" picks 3, "3*7" does so seven times, "t5" is a
// Tick of 5, "d" a Deflate.
func turns(t testing.TB, text string) []script.Turn {
	t.Helper()
	number := func(digits string) int {
		n, err := strconv.Atoi(digits)
		if err != nil {
			t.Fatalf("%q is no number of %q", digits, text)
		}
		return n
	}
	var l []script.Turn
	for word := range strings.FieldsSeq(text) {
		first, many, isMany := strings.Cut(word, "*")
		switch {
		case word == "d":
			l = append(l, script.Turn{Kind: deflate})
		case word[0] == 't':
			l = append(l, script.Turn{Kind: tick, N: number(word[1:])})
		case isMany:
			l = append(l, slices.Repeat([]script.Turn{{Kind: pick, N: number(first)}}, number(many))...)
		default:
			l = append(l, script.Turn{Kind: pick, N: number(first)})
		}
	}
	return l
}

// scriptOf is a script of texts.
func scriptOf(t testing.TB, c api.Config, schedule string, texts ...string) script.Script {
	t.Helper()
	return script.Script{Config: c, Progs: progs(t, c.Threads, texts...), Turns: turns(t, schedule)}
}

// copied is another script that is the same.
func copied(s script.Script) script.Script {
	s.Turns = slices.Clone(s.Turns)
	s.Progs = slices.Clone(s.Progs)
	for i := range s.Progs {
		s.Progs[i] = slices.Clone(s.Progs[i])
	}
	return s
}

// played is the machine that Play answers; the script that was handed in stays as it
// was.
func played(t testing.TB, s script.Script) *core.Machine {
	t.Helper()
	was := copied(s)
	m, err := run.Play(s)
	if m == nil || err != api.OK {
		t.Fatalf("Play is %v, %d of %+v", m, err, s)
	}
	if !script.Same(s, was) {
		t.Fatalf("Play turned %+v", was)
	}
	return m
}

// byHand is a machine of a script's configuration and programs, to which its turns were
// given one by one, and of each turn whether it did something.
func byHand(t testing.TB, s script.Script) (*core.Machine, []bool) {
	t.Helper()
	m, err := core.New(s.Config, s.Progs)
	if err != api.OK {
		t.Fatalf("New is %d of %+v", err, s)
	}
	var did []bool
	for _, x := range s.Turns {
		did = append(did, doByHand(m, x))
	}
	return m, did
}

// doByHand does a turn by the machine's own calls.
func doByHand(m *core.Machine, x script.Turn) bool {
	switch x.Kind {
	case pick:
		return m.Pick(x.N)
	case tick:
		m.Tick(int64(x.N))
	case deflate:
		m.Deflate()
	}
	return true
}

// tells is all that a machine tells, as a text.
func tells(m *core.Machine) string {
	c := m.Config()
	l := []any{c, m.Log(), m.Broken(), m.Steps(), m.Most(), m.Classes(), m.Runnable(), m.Pairs(), m.Used(), m.Left(), m.Wanted(), m.Rounds(), m.Now()}
	for a := range 128 {
		l = append(l, m.Word(a))
	}
	for t := range c.Threads {
		l = append(l, m.Ended(t), m.Asleep(t), m.Flag(t))
		for o := range c.Objects {
			l = append(l, m.Records(t, o))
		}
	}
	for slot := range c.Slots {
		l = append(l, m.Entry(slot), m.Ring(slot))
	}
	return fmt.Sprint(l...)
}

// alike tells if two machines tell anything otherwise, or have other summaries or
// answers.
func alike(t testing.TB, a, b *core.Machine) {
	t.Helper()
	if x, y := tells(a), tells(b); x != y {
		t.Fatalf("one tells\n%s\nthe other\n%s", x, y)
	}
	if x, y := run.Sum(a), run.Sum(b); x != y {
		t.Fatalf("one's summary is %+v, the other's %+v", x, y)
	}
	for thread := range a.Config().Threads {
		if x, y := run.Answers(a, thread), run.Answers(b, thread); !slices.Equal(x, y) {
			t.Fatalf("one's answers of %d are %v, the other's %v", thread, x, y)
		}
	}
}

// answers are those of a thread's operations that returned, by its program: the first
// operation's Return is the first one.
func answers(m *core.Machine, prog []api.Op, thread int) []run.Answer {
	var l []run.Answer
	for _, e := range m.Ghost().All() {
		if e.Kind == ghost.Return && e.Thread == thread {
			l = append(l, run.Answer{Number: len(l), Op: prog[len(l)], Value: e.Value, Err: e.Err})
		}
	}
	return l
}

// answersAre tells if any thread's answers are other ones than its program and its
// Returns say.
func answersAre(t testing.TB, m *core.Machine, progs [][]api.Op) {
	t.Helper()
	for thread, prog := range progs {
		was := tells(m)
		for range 2 {
			got, want := run.Answers(m, thread), answers(m, prog, thread)
			if !slices.Equal(got, want) {
				t.Fatalf("Answers of %d are %v, not %v", thread, got, want)
			}
			clear(got)
			_ = append(got, run.Answer{Number: 99})
		}
		if tells(m) != was {
			t.Fatalf("Answers of %d turn the machine", thread)
		}
	}
}

// summary is a machine's, by bits of its words, and by its log, beside how many objects
// are being inflated.
func summary(m *core.Machine) (run.Summary, int) {
	c := m.Config()
	s := run.Summary{Steps: m.Steps(), Used: len(m.Pairs()), Rounds: m.Rounds()}
	zero := 0
	for o := range c.Objects {
		w := m.Word(o)
		switch {
		case w == 0:
			zero++
		case w&7 == 0:
			s.Thin++
		case w&7 == 1:
			s.Neutral++
		case w&7 == 2:
			s.Fat++
		case w&7 == 5:
			s.Biased++
		}
	}
	for thread := range c.Threads {
		if m.Ended(thread) {
			s.Ended++
		}
		if m.Asleep(thread) {
			s.Asleep++
		}
	}
	for _, e := range m.Ghost().All() {
		if e.Kind != ghost.Call && e.Kind != ghost.Return {
			s.Commits++
		}
	}
	return s, zero
}

// summaryIs tells if a machine's summary is another one than its words and its log say,
// or its kinds are not together as many as there are objects, but those that are being
// inflated.
func summaryIs(t testing.TB, m *core.Machine) {
	t.Helper()
	want, zero := summary(m)
	was := tells(m)
	for range 2 {
		got := run.Sum(m)
		if got != want {
			t.Fatalf("Sum is %+v, not %+v", got, want)
		}
		if got.Neutral+got.Biased+got.Thin+got.Fat+zero != m.Config().Objects {
			t.Fatalf("Sum is %+v of %d objects, %d of them being inflated", got, m.Config().Objects, zero)
		}
	}
	if tells(m) != was {
		t.Fatal("Sum turns the machine")
	}
}

// holds tells if what a script is played to is not what its turns one by one come to,
// with the answers and the summary of that.
func holds(t testing.TB, s script.Script) *core.Machine {
	t.Helper()
	m := played(t, s)
	hand, did := byHand(t, s)
	alike(t, m, hand)
	answersAre(t, m, s.Progs)
	summaryIs(t, m)
	steps := 0
	for i, x := range s.Turns {
		if x.Kind == pick && did[i] {
			steps++
		}
	}
	if got := run.Sum(m).Steps; got != steps {
		t.Fatalf("a summary of %d steps, %d were done", got, steps)
	}
	if m.Broken() {
		t.Fatalf("it broke: %+v", s)
	}
	return m
}
