package run_test

import (
	"slices"
	"testing"

	"futtock/api"
	"futtock/run"
	"futtock/script"
)

// scripts are some that may be, with every kind of operation and of turn.
func scripts(t testing.TB) []script.Script {
	two := with(least(2), func(c *api.Config) { c.Objects, c.Slots = 2, 2 })
	biased := with(two, func(c *api.Config) { c.Bias, c.Rebias, c.Revoke = 255, 1, 2 })
	return []script.Script{
		scriptOf(t, least(1), "", "enter 0; exit 0"),
		scriptOf(t, least(1), "0"),
		scriptOf(t, least(1), "0*20", "enter 0; exit 0"),
		scriptOf(t, least(1), "0*40", "enter 0; hash 0; holds 0; exit 0; exit 0; interrupt 0"),
		scriptOf(t, two, "0*20 1*20 0*3 d 1*30 d t3", "enter 0; wait 0; exit 0", "enter 0; notify 0; exit 0"),
		scriptOf(t, two, "0*20 1*9 t2 1*9 t3 0*30 d", "enter 0; wait 0 5; exit 0", "try 0; exit 0; holds 1"),
		scriptOf(t, two, "0*20 1*40 0*40 1 d 1 0 t255 t1", "enter 1; wait 1 3; all 1; exit 1", "interrupt 0; enter 1; all 1; exit 1"),
		scriptOf(t, biased, "0*12 1*20 0*20 1*20 d", "enter 0; enter 1; exit 1; exit 0; hash 1", "enter 0; try 1; exit 0; hash 0"),
		scriptOf(t, with(least(3), func(c *api.Config) { c.Spin = 2 }), "0*6 1*9 2*9 0*9 1*20 2*20 d t9 0 1 2", "enter 0; exit 0", "enter 0; exit 0", "try 0; enter 0; exit 0"),
		scriptOf(t, greatest(), "0 1 2 3 4 5 6 7 7 6 5 4 3 2 1 0 t200 d 7*9 0*30", "enter 7; wait 7 65535; exit 7", "interrupt 7", "all 3", "", "enter 4", "hash 2", "holds 1", "enter 7; exit 7"),
	}
}

// P25.1, P25.2: a script that is played comes to what its turns do one by one.
func TestPlay(t *testing.T) {
	for _, s := range scripts(t) {
		holds(t, s)
	}
}

// P25.1: bytes are played as the script that they are.
func TestBytes(t *testing.T) {
	for _, s := range scripts(t) {
		b, err := script.Lay(s)
		if err != api.OK {
			t.Fatalf("Lay is %d", err)
		}
		was := slices.Clone(b)
		m, err := run.Bytes(b)
		if m == nil || err != api.OK {
			t.Fatalf("Bytes(%v) is %v, %d", b, m, err)
		}
		alike(t, m, played(t, s))
		if !slices.Equal(b, was) {
			t.Fatalf("Bytes turned %v", was)
		}
	}
}

// P25.1: bytes that are written out.
func TestBytesWrittenOut(t *testing.T) {
	b := []byte{77, 2, 1, 1, 1, 0, 3, 0, 1, 1, 2, 1, 0, 0, 0, 0, 0, 0, 6, 1, 0, 0, 3, 0, 0, 3, 8, 0, 0}
	b = append(b, 0, 0, 0, 0, 1, 1, 100, 7, 101, 1)
	m, err := run.Bytes(b)
	if m == nil || err != api.OK {
		t.Fatalf("it is %v, %d", m, err)
	}
	want := run.Summary{Steps: 7, Commits: 2, Thin: 1, Rounds: 1, Ended: 1}
	if got := run.Sum(m); got != want || m.Now() != 7 {
		t.Errorf("the summary is %+v, the time %d", got, m.Now())
	}
	if l := run.Answers(m, 1); !slices.Equal(l, []run.Answer{{Op: api.Op{Kind: 8}}}) {
		t.Errorf("what thread 1 was told is %v", l)
	}
}

// P25.1: no turns: a machine at its beginning.
func TestNoTurns(t *testing.T) {
	for _, c := range []api.Config{least(1), least(8), greatest(), with(greatest(), func(c *api.Config) { c.Bias = 0 }), with(greatest(), func(c *api.Config) { c.Bias = 5 })} {
		for _, l := range [][]script.Turn{nil, {}} {
			s := scriptOf(t, c, "", "enter 0")
			s.Turns = l
			m := holds(t, s)
			biased := 0
			for o := range c.Objects {
				if c.Bias>>(o%c.Classes)&1 == 1 {
					biased++
				}
			}
			if got, want := run.Sum(m), (run.Summary{Biased: biased, Neutral: c.Objects - biased}); got != want {
				t.Errorf("the summary is %+v, not %+v", got, want)
			}
			if len(m.Log()) != 0 || m.Now() != 0 {
				t.Errorf("the log has %d entries, the time is %d", len(m.Log()), m.Now())
			}
		}
	}
}

// P25.1: as many turns as a script may have, of each kind; one more is ErrMany.
func TestMostTurns(t *testing.T) {
	for _, x := range []script.Turn{{Kind: pick, N: 7}, {Kind: tick, N: 255}, {Kind: deflate}} {
		s := scriptOf(t, greatest(), "", "enter 0; wait 0", "", "", "", "", "", "", "enter 0; exit 0")
		s.Turns = slices.Repeat([]script.Turn{x}, 4096)
		m := holds(t, s)
		if x.Kind == tick && m.Now() != 4096*255 || x.Kind == deflate && m.Rounds() != 4096 || x.Kind == pick && !m.Ended(7) {
			t.Errorf("behind 4096 of %v the time is %d, there were %d rounds, 7 ended: %v", x, m.Now(), m.Rounds(), m.Ended(7))
		}
		s.Turns = append(s.Turns, x)
		refuses(t, s, api.ErrMany)
	}
}

// P25.1, P25.2: a program of the most operations, of each thread that there may be, is
// played to its end; behind each step it has so many answers as returned.
func TestMostOperations(t *testing.T) {
	s := script.Script{Config: greatest()}
	for thread := range 8 {
		pair := []api.Op{{Kind: 1, Obj: thread}, {Kind: 3, Obj: thread}}
		s.Progs = append(s.Progs, slices.Repeat(pair, 32))
	}
	for range 512 {
		for thread := range 8 {
			s.Turns = append(s.Turns, script.Turn{Kind: pick, N: thread})
		}
	}
	m := holds(t, s)
	if got := run.Sum(m); got.Ended != 8 || got.Commits != 8*64 || got.Biased != 8 {
		t.Errorf("the summary is %+v", got)
	}
	for thread := range 8 {
		if l := run.Answers(m, thread); len(l) != 64 || l[63] != (run.Answer{Number: 63, Op: api.Op{Kind: 3, Obj: thread}}) {
			t.Errorf("there are %d answers of %d: %v", len(l), thread, l)
		}
	}
}

// P25.1: empty programs: each thread ends at its first step, and does none more.
func TestEmptyPrograms(t *testing.T) {
	for threads := 1; threads <= 8; threads++ {
		s := scriptOf(t, least(threads), "0 0 0 d 0")
		m := holds(t, s)
		if got, want := run.Sum(m), (run.Summary{Steps: 1, Ended: 1, Neutral: 1, Rounds: 1}); got != want {
			t.Errorf("the summary is %+v, not %+v", got, want)
		}
		for thread := range threads {
			if l := run.Answers(m, thread); len(l) != 0 {
				t.Errorf("answers of %d: %v", thread, l)
			}
		}
	}
}
