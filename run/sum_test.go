package run_test

import (
	"testing"

	"futtock/api"
	"futtock/core"
	"futtock/run"
)

// sums tells if a script's summary is another one.
func sums(t *testing.T, c api.Config, schedule string, want run.Summary, texts ...string) {
	t.Helper()
	m := holds(t, scriptOf(t, c, schedule, texts...))
	if got := run.Sum(m); got != want {
		t.Errorf("behind %q of %q the summary is\n%+v, not\n%+v", schedule, texts, got, want)
	}
}

// P25.2: the example: a script without turns has a summary of no steps.
func TestSumOfNoTurns(t *testing.T) {
	sums(t, least(1), "", run.Summary{Neutral: 1}, "enter 0")
}

// P25.2: headers of each kind, a thread that ended, one asleep, slots, and rounds.
func TestSum(t *testing.T) {
	const once = "enter 0; exit 0"
	biased := with(least(2), func(c *api.Config) { c.Bias = 1 })
	many := with(least(2), func(c *api.Config) { c.Objects, c.Classes, c.Bias, c.Slots = 5, 2, 2, 2 })
	sums(t, least(1), "0*4", run.Summary{Steps: 4, Commits: 1, Thin: 1}, once)
	sums(t, least(1), "0*9", run.Summary{Steps: 9, Commits: 2, Neutral: 1}, once)
	sums(t, least(1), "0*10", run.Summary{Steps: 10, Commits: 2, Neutral: 1, Ended: 1}, once)
	sums(t, least(1), "0*20 t7", run.Summary{Steps: 10, Commits: 2, Neutral: 1, Ended: 1}, once)
	sums(t, least(1), "0*20 d d", run.Summary{Steps: 10, Commits: 2, Neutral: 1, Ended: 1, Rounds: 2}, once)
	sums(t, biased, "", run.Summary{Biased: 1}, once)
	sums(t, biased, "0*30", run.Summary{Steps: 8, Commits: 2, Biased: 1, Ended: 1}, once)
	sums(t, many, "", run.Summary{Neutral: 3, Biased: 2})
	sums(t, many, "0*4 1*4", run.Summary{Steps: 8, Commits: 2, Neutral: 2, Biased: 2, Thin: 1}, once, "holds 4; enter 2")
	sums(t, least(2), "0*60", run.Summary{Steps: 19, Commits: 2, Asleep: 1, Fat: 1, Used: 1}, "enter 0; wait 0; exit 0")
	sums(t, least(2), "0*60 1", run.Summary{Steps: 20, Commits: 2, Asleep: 1, Fat: 1, Used: 1, Ended: 1}, "enter 0; wait 0; exit 0")
	sums(t, least(2), "0*60 1 d d", run.Summary{Steps: 20, Commits: 2, Asleep: 1, Fat: 1, Used: 1, Ended: 1, Rounds: 2}, "enter 0; wait 0; exit 0")
}

// P25.2: slots in use, of which a Deflate, which is a round, leaves those that somebody
// owns.
func TestSumOfSlots(t *testing.T) {
	c := with(least(1), func(c *api.Config) { c.Objects, c.Slots = 8, 16 })
	m := begun(t, c, "enter 0; hash 0; enter 1; hash 1; enter 2; hash 2; enter 3; hash 3; exit 0; exit 3")
	if run.Finish(m, 200); !m.Ended(0) {
		t.Fatal("it did not end")
	}
	got := run.Sum(m)
	want := run.Summary{Steps: got.Steps, Commits: 10, Ended: 1, Neutral: 4, Fat: 4, Used: 4}
	if got != want {
		t.Errorf("the summary is %+v, not %+v", got, want)
	}
	m.Deflate()
	want.Neutral, want.Fat, want.Used, want.Rounds = 6, 2, 2, 1
	if got := run.Sum(m); got != want {
		t.Errorf("behind a Deflate the summary is %+v, not %+v", got, want)
	}
}

// P25.2: a revocation is a round; what was Biased is Neutral, or Thin, behind it.
func TestSumOfRounds(t *testing.T) {
	c := with(least(2), func(c *api.Config) { c.Bias = 1 })
	sums(t, c, "0*4 1*2", run.Summary{Steps: 6, Commits: 1, Biased: 1}, "enter 0", "enter 0")
	m := begun(t, c, "enter 0; holds 0", "enter 0")
	does(t, m, "0*4 1*4 0", "yyyyyyyyy")
	if got := run.Sum(m); got.Rounds != 1 || got.Biased != 0 || got.Thin != 1 || got.Neutral != 0 {
		t.Errorf("the summary is %+v", got)
	}
	m = begun(t, c, "hash 0")
	run.Finish(m, 20)
	if got := run.Sum(m); got.Rounds != 1 || got.Biased != 0 || got.Neutral != 1 || got.Ended != 2 {
		t.Errorf("the summary is %+v", got)
	}
}

// P25.2: an object whose header is 0, as it is being inflated, is of none of the kinds.
func TestSumOfAnInflation(t *testing.T) {
	m := begun(t, with(least(2), func(c *api.Config) { c.Objects = 2 }), "enter 0; hash 0")
	kinds := ""
	for m.Pick(0) {
		switch got := run.Sum(m); (run.Summary{Neutral: got.Neutral, Thin: got.Thin, Fat: got.Fat, Used: got.Used}) {
		case run.Summary{Neutral: 2}:
			kinds += "n"
		case run.Summary{Neutral: 1, Thin: 1}:
			kinds += "t"
		case run.Summary{Neutral: 1}:
			kinds += "0"
		case run.Summary{Neutral: 1, Fat: 1, Used: 1}:
			kinds += "f"
		default:
			t.Fatalf("the summary is %+v", got)
		}
	}
	// Call, header, saved; CAS, Return, Call, header, slot; CAS, the word that was saved,
	// displaced, lock; Fat, header, displaced, its CAS, Return.
	if kinds != "nnnttttt0000fffff" {
		t.Errorf("behind its steps it is %s", kinds)
	}
}

// P25.2: all threads that there may be asleep, or ended.
func TestSumOfThreads(t *testing.T) {
	for threads := 1; threads <= 8; threads++ {
		wait := make([]string, threads)
		for i := range wait {
			wait[i] = "enter 0; wait 0 50; exit 0"
		}
		m := begun(t, least(threads), wait...)
		for thread := range threads {
			for m.Pick(thread) {
			}
			if got := run.Sum(m); got.Asleep != thread+1 || got.Ended != 0 {
				t.Errorf("the summary is %+v, %d are asleep", got, thread+1)
			}
		}
		m.Tick(50)
		if got := run.Sum(m); got.Asleep != 0 {
			t.Errorf("the summary is %+v, all are late", got)
		}
		ended(t, m)
	}
}

// ended lets one thread after the other come to its end.
func ended(t *testing.T, m *core.Machine) {
	t.Helper()
	for thread := range m.Config().Threads {
		for m.Pick(thread) {
		}
		if got := run.Sum(m); got.Ended != thread+1 {
			t.Errorf("the summary is %+v, %d ended", got, thread+1)
		}
	}
}
