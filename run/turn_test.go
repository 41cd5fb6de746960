package run_test

import (
	"math"
	"strings"
	"testing"

	"futtock/api"
	"futtock/core"
	"futtock/run"
	"futtock/script"
)

// does does turns, and tells if one of them answers otherwise than was said, as a text
// of a letter each: "y" true, "n" false.
func does(t testing.TB, m *core.Machine, schedule, want string) {
	t.Helper()
	got := ""
	for _, x := range turns(t, schedule) {
		if run.Turn(m, x) {
			got += "y"
		} else {
			got += "n"
		}
	}
	if got != want {
		t.Errorf("the turns %q are %q, not %q", schedule, got, want)
	}
}

// begun is a machine at its beginning.
func begun(t testing.TB, c api.Config, texts ...string) *core.Machine {
	t.Helper()
	return played(t, scriptOf(t, c, "", texts...))
}

// P25.1: Turn does what the machine's own call does, and tells whether it did a step.
func TestTurn(t *testing.T) {
	for _, s := range scripts(t) {
		m, _ := core.New(s.Config, s.Progs)
		hand, _ := core.New(s.Config, s.Progs)
		for i, x := range s.Turns {
			got, want := run.Turn(m, x), doByHand(hand, x)
			if got != want {
				t.Fatalf("the turn %d, %v, is %v, not %v", i, x, got, want)
			}
			alike(t, m, hand)
		}
	}
}

// P25.1: a Pick is true just of a thread that does a step: not of one that ended, that is
// asleep, or that waits till all stand.
func TestTurnPick(t *testing.T) {
	m := begun(t, least(2), "enter 0; wait 0 5", "holds 0")
	// Call, header, saved, CAS, Return; Call, header, slot, CAS, saved, displaced, lock,
	// Fat; header, state, lock word, its release, a look whether it was told, its sleep.
	does(t, m, "0*19 0*3", strings.Repeat("y", 19)+"nnn")
	if !m.Asleep(0) {
		t.Fatal("it is not asleep")
	}
	does(t, m, "1*4", "yyyn")
	does(t, m, "t5 0", "yy")
	m = begun(t, least(2), "enter 0; exit 0", "enter 0; exit 0")
	does(t, m, "0*3 d 1 0 1 0 1 0", "yyyynyyyyy")
	m = begun(t, with(least(3), func(c *api.Config) { c.Slots = 2 }), "enter 0; exit 0", "enter 0; exit 0", "holds 0")
	does(t, m, "0*5 1*3 d 2 1 2", "yyyyyyyyynyn")
}

// P25.1: Picks of threads that there are not are false, and do no step; what was asked
// for they do, as the machine's own Pick does.
func TestTurnOfNoThread(t *testing.T) {
	for _, none := range []int{-1, 2, 8, 100, math.MinInt, math.MaxInt} {
		m := begun(t, least(2), "enter 0; exit 0")
		was := tells(m)
		if run.Turn(m, script.Turn{Kind: pick, N: none}) || tells(m) != was {
			t.Errorf("a Pick of %d is done", none)
		}
		does(t, m, "0*3 d 0", "yyyyy")
		if !m.Wanted() {
			t.Fatal("nothing is wanted")
		}
		does(t, m, "0", "y")
		if run.Turn(m, script.Turn{Kind: pick, N: none}) || m.Wanted() {
			t.Errorf("a Pick of %d is done, or leaves what was asked for: %v", none, m.Wanted())
		}
	}
}

// P25.1: Ticks of any number are true: the time goes on as layer 7 says.
func TestTurnTick(t *testing.T) {
	for _, x := range []struct {
		n   int
		now int64
	}{{0, 0}, {1, 1}, {255, 255}, {256, 256}, {-1, 0}, {math.MinInt, 0}, {1 << 40, 1 << 40}, {1<<40 + 1, 1 << 40}, {math.MaxInt, 1 << 40}} {
		m := begun(t, least(1), "enter 0; wait 0 9; exit 0")
		does(t, m, "0*19", strings.Repeat("y", 19))
		if !run.Turn(m, script.Turn{Kind: tick, N: x.n}) || m.Now() != x.now || m.Asleep(0) != (x.now < 9) {
			t.Errorf("behind a Tick of %d the time is %d, asleep %v", x.n, m.Now(), m.Asleep(0))
		}
	}
}

// P25.1: a Deflate is one, whatever its number.
func TestTurnDeflate(t *testing.T) {
	for _, n := range []int{0, 1, -1, 255, math.MinInt, math.MaxInt} {
		m := begun(t, least(1), "enter 0; hash 0; exit 0")
		run.Finish(m, 50)
		if got := run.Sum(m); got.Fat != 1 || got.Used != 1 {
			t.Fatalf("the summary is %+v", got)
		}
		if !run.Turn(m, script.Turn{Kind: deflate, N: n}) {
			t.Errorf("a Deflate of %d is false", n)
		}
		if got := run.Sum(m); got.Neutral != 1 || got.Used != 0 || got.Rounds != 1 {
			t.Errorf("behind a Deflate of %d the summary is %+v", n, got)
		}
	}
}

// P25.1: turns of another kind are false, and nothing is done.
func TestTurnOfAnotherKind(t *testing.T) {
	for _, kind := range []int{0, 4, -1, 100, 101, math.MinInt, math.MaxInt} {
		for _, n := range []int{0, 1, 2, -1} {
			m := begun(t, least(2), "enter 0; exit 0")
			was := tells(m)
			if run.Turn(m, script.Turn{Kind: kind, N: n}) || tells(m) != was {
				t.Errorf("a turn of the kind %d, %d, is done", kind, n)
			}
		}
	}
}
