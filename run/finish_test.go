package run_test

import (
	"math"
	"testing"

	"futtock/api"
	"futtock/core"
	"futtock/run"
	"futtock/script"
)

// finished are whether all threads of a machine ended, which is picked by its own calls,
// round by round, and how many rounds that took.
func finished(m *core.Machine, rounds int) (bool, int) {
	all := func() bool {
		for t := 0; t < m.Config().Threads; t++ {
			if !m.Ended(t) {
				return false
			}
		}
		return true
	}
	if rounds > 100000 {
		rounds = 100000
	}
	done := 0
	for done < rounds && !all() {
		for t := 0; t < m.Config().Threads; t++ {
			m.Pick(t)
		}
		m.Tick(1)
		done++
	}
	return all(), done
}

// finishes tells if Finish of a script's machine does anything else than so many rounds
// by its own calls, and tells how many there were.
func finishes(t testing.TB, s script.Script, rounds int) (bool, int) {
	t.Helper()
	m, hand := played(t, s), played(t, s)
	want, done := finished(hand, rounds)
	if got := run.Finish(m, rounds); got != want {
		t.Fatalf("Finish of %d rounds is %v, not %v, of %+v", rounds, got, want, s)
	}
	alike(t, m, hand)
	summaryIs(t, m)
	answersAre(t, m, s.Progs)
	return want, done
}

// needs tells if a script's machine does not end in just so many rounds: in one less,
// in so many, and in more.
func needs(t *testing.T, s script.Script, rounds int) {
	t.Helper()
	ahead := played(t, s).Now()
	for _, x := range []struct {
		rounds, done int
		want         bool
	}{
		{math.MinInt, 0, rounds == 0}, {-1, 0, rounds == 0}, {0, 0, rounds == 0}, {1, min(rounds, 1), rounds <= 1},
		{rounds - 1, max(rounds-1, 0), rounds == 0}, {rounds, rounds, true}, {rounds + 1, rounds, true},
		{100000, rounds, true}, {100001, rounds, true}, {math.MaxInt, rounds, true},
	} {
		if got, done := finishes(t, s, x.rounds); got != x.want || done != x.done {
			t.Errorf("Finish of %d rounds is %v, behind %d, not %v, %d", x.rounds, got, done, x.want, x.done)
		}
		m := played(t, s)
		if run.Finish(m, x.rounds); m.Now()-ahead != int64(x.done) {
			t.Errorf("the time went on by %d in %d rounds", m.Now()-ahead, x.done)
		}
	}
}

// P25.3: programs that end: behind as many rounds as the thread has steps that needs the
// most, or that waits.
func TestFinish(t *testing.T) {
	needs(t, scriptOf(t, least(1), ""), 1)
	needs(t, scriptOf(t, least(8), ""), 1)
	needs(t, scriptOf(t, least(1), "0"), 0)
	needs(t, scriptOf(t, least(2), "0 1 d t9"), 0)
	needs(t, scriptOf(t, least(2), "1"), 1)
	needs(t, scriptOf(t, least(1), "", "enter 0; exit 0"), 10)
	needs(t, scriptOf(t, least(1), "0*9", "enter 0; exit 0"), 1)
	needs(t, scriptOf(t, least(1), "0*10", "enter 0; exit 0"), 0)
	needs(t, scriptOf(t, least(3), "", "holds 0", "enter 0; exit 0", "holds 0; holds 0"), 10)
	needs(t, scriptOf(t, with(least(2), func(c *api.Config) { c.Objects = 2 }), "", "enter 0; exit 0; holds 0", "enter 1; exit 1"), 13)
}

// P25.3: who waits for a time is late as it is over, as the time goes on by 1 each
// round; an alarm as far off as 100000 rounds reach is due in them, a later one not.
func TestFinishLetsTheTimeGoOn(t *testing.T) {
	wait := func(arg int) script.Script {
		s := scriptOf(t, least(1), "", "enter 0; wait 0 1; exit 0")
		s.Progs[0][1].Arg = arg
		return s
	}
	// Its alarm is set at its 15th step, at the time 14, and is due behind the round
	// 14+arg. Then: a look whether it was told, its state; header, lock word, taken, its
	// state, Return; Call, header, lock word, its release, Return.
	for _, arg := range []int{20, 21, 100, 5000, 65535} {
		needs(t, wait(arg), 14+arg+12)
	}
}

// P25.3: 100000 rounds at most, and so many, where not all end.
func TestFinishOfNoEnd(t *testing.T) {
	stuck := scriptOf(t, with(least(2), func(c *api.Config) { c.Objects, c.Slots = 2, 2 }), "0*5 1*5", "enter 0; enter 1", "enter 1; enter 0")
	for _, s := range []script.Script{
		scriptOf(t, least(1), "", "enter 0; wait 0"),
		scriptOf(t, greatest(), "", "enter 0; wait 0; exit 0", "enter 0; exit 0"),
		scriptOf(t, least(2), "", "enter 0", "enter 0; exit 0"),
		stuck,
	} {
		for _, x := range []struct{ rounds, done int }{{0, 0}, {1, 1}, {99999, 99999}, {100000, 100000}, {100001, 100000}, {1 << 40, 100000}, {math.MaxInt, 100000}, {-1, 0}, {math.MinInt, 0}} {
			m := played(t, s)
			if run.Finish(m, x.rounds) || m.Now() != int64(x.done) {
				t.Errorf("Finish of %d: the time is %d", x.rounds, m.Now())
			}
		}
		finishes(t, s, 300)
		finishes(t, s, 100001)
	}
}

// P25.3: one Finish behind another goes on where that left off; one that finds all ended
// does nothing.
func TestFinishTwice(t *testing.T) {
	s := scriptOf(t, least(2), "", "enter 0; wait 0 30; exit 0", "enter 0; exit 0")
	_, whole := finishes(t, s, 1000)
	want := played(t, s)
	run.Finish(want, 1000)
	for first := range whole + 2 {
		m := played(t, s)
		if got := run.Finish(m, first); got != (first >= whole) {
			t.Errorf("%d of %d rounds: %v", first, whole, got)
		}
		if !run.Finish(m, whole) || !run.Finish(m, 0) || !run.Finish(m, 5) || !run.Finish(m, -3) {
			t.Errorf("it did not end behind %d rounds", first)
		}
		alike(t, m, want)
	}
}

// P25.3: each thread is picked once a round, the lesser number first.
func TestFinishPicksInTurns(t *testing.T) {
	for threads := 1; threads <= 8; threads++ {
		texts := make([]string, threads)
		for i := range texts {
			texts[i] = "holds 0; holds 0"
		}
		m := begun(t, least(threads), texts...)
		for round := 1; round <= 3; round++ {
			run.Finish(m, 1)
			if m.Steps() != threads*round || m.Now() != int64(round) {
				t.Errorf("behind %d rounds of %d there are %d steps", round, threads, m.Steps())
			}
			l := m.Log()
			for i, e := range l {
				if e.Thread != i%threads {
					t.Errorf("the log of %d rounds is %v", round, l)
				}
			}
		}
	}
}

// P25.3: as a round is done whole, those that ended are picked in it, too; what was
// asked for is done by that.
func TestFinishDoesWhatWasAskedFor(t *testing.T) {
	m := begun(t, least(2), "enter 0; exit 0", "enter 0; hash 0; exit 0")
	does(t, m, "0*3 d", "yyyy")
	if !m.Wanted() {
		t.Fatal("nothing is wanted")
	}
	if !run.Finish(m, 100) || m.Wanted() || run.Sum(m).Rounds != 1 {
		t.Errorf("the summary is %+v", run.Sum(m))
	}
	m = begun(t, least(2), "enter 0; exit 0")
	does(t, m, "1 0*3 d", "yyyyy")
	if run.Finish(m, 1) || m.Wanted() || !m.Ended(1) || run.Sum(m).Rounds != 1 {
		t.Errorf("behind a round in which 1 has ended the summary is %+v", run.Sum(m))
	}
}
