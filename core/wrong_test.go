package core_test

import (
	"math"
	"reflect"
	"slices"
	"testing"

	"futtock/api"
	"futtock/core"
	"futtock/ghost"
)

// far are numbers that are no thread, object, slot or cell of a machine.
var far = []int{-1, -2, -128, 128, 129, 255, 65536, 1 << 32, 1<<32 + 1, -1 << 32, math.MaxInt, math.MinInt}

// P21.3: a nil machine, and one that New did not give, tell nothing, and nothing is
// done by them.
func TestNoMachine(t *testing.T) {
	var none *core.Machine
	for _, m := range []*core.Machine{none, {}, new(core.Machine)} {
		for _, n := range append([]int{0, 1, 7}, far...) {
			m.Tick(int64(n))
			m.Deflate()
			if m.Pick(n) || m.Word(n) != 0 || m.Header(n) != 0 || m.Ended(n) || m.Asleep(n) || m.Flag(n) || m.Entry(n) != nil || m.Ring(n) != nil {
				t.Errorf("of %d no machine tells something", n)
			}
			for _, o := range append([]int{0, 1, 7}, far...) {
				if m.Records(n, o) != 0 {
					t.Errorf("%d has records of %d", n, o)
				}
			}
		}
		if len(m.Runnable())+len(m.Log())+len(m.Classes())+len(m.Pairs())+len(m.Used()) != 0 || m.Ghost() != nil || m.Config() != (api.Config{}) {
			t.Errorf("no machine tells %v, %v, %v, %v, %v, %v, %v", m.Runnable(), m.Log(), m.Classes(), m.Pairs(), m.Used(), m.Ghost(), m.Config())
		}
		if m.Broken() || m.Steps() != 0 || m.Most() != 0 || m.Left() != 0 || m.Wanted() || m.Rounds() != 0 || m.Now() != 0 {
			t.Error("no machine tells numbers")
		}
	}
}

// busy is a machine of two threads on which nearly all is going on: one waits, and one
// owns what others want.
func busy(t *testing.T) *core.Machine {
	t.Helper()
	c := api.Config{Threads: 5, Objects: 2, Classes: 2, Slots: 2, Count: 3, Bias: 2, Rebias: 1, Revoke: 9}
	m := made(t, c, "enter 0; enter 0; wait 0 9", "enter 0; enter 0; hash 1; exit 0; exit 0", "enter 0", "enter 1; exit 1", "")
	exhaust(m, 0)
	returns(t, m, 1, 2)
	exhaust(m, 2)
	calls(t, m, 1, 3)
	m.Tick(3)
	return m
}

// P21.2: a Pick of what is no thread is false, and turns nothing; nor does one of a
// thread that sleeps, or ended.
func TestPickOfNone(t *testing.T) {
	m := busy(t)
	exhaust(m, 4)
	was, steps, entries := all(m), m.Steps(), len(m.Log())
	for _, n := range append([]int{0, 2, 4, 5, 6, 7, 8, 9}, far...) {
		if m.Pick(n) {
			t.Errorf("Pick(%d) is true", n)
		}
	}
	if l := turned(was, all(m)); len(l) != 0 || m.Steps() != steps || len(m.Log()) != entries {
		t.Errorf("behind Picks of none: %v, %d steps", l, m.Steps())
	}
	if !slices.Equal(m.Runnable(), []int{1, 3}) || !m.Asleep(0) || !m.Asleep(2) || !m.Ended(4) {
		t.Errorf("Runnable is %v", m.Runnable())
	}
}

// P21.2: by a Pick of none what was asked for is done, if all stand, and nothing else.
func TestPickOfNoneSettles(t *testing.T) {
	for _, n := range append([]int{1, 2, 8}, far...) {
		c := with(least(2), func(c *api.Config) { c.Bias = 1 })
		m := made(t, c, "hash 0", "")
		exhaust(m, 1)
		picks(t, m, 0, 2)
		if !m.Wanted() || !slices.Equal(m.Runnable(), []int{0}) || m.Rounds() != 0 {
			t.Fatalf("Wanted is %v, Runnable %v", m.Wanted(), m.Runnable())
		}
		if m.Pick(n) || m.Wanted() || m.Header(0) != 1 || m.Steps() != 3 || m.Rounds() != 1 || len(m.Log()) != 1 {
			t.Errorf("behind Pick(%d) Wanted is %v, the header %#x", n, m.Wanted(), m.Header(0))
		}
	}
}

// P21.2: who asked, or stands, cannot be picked as long as one runs; then it can.
func TestPickOfWhoWaits(t *testing.T) {
	c := with(least(2), func(c *api.Config) { c.Bias = 1 })
	m := made(t, c, "hash 0; hash 0", "holds 0; holds 0")
	picks(t, m, 1, 1)
	picks(t, m, 0, 2)
	if m.Pick(0) || !slices.Equal(m.Runnable(), []int{1}) || !m.Wanted() {
		t.Errorf("one that waits can be picked: Runnable is %v", m.Runnable())
	}
	picks(t, m, 1, 1)
	if !slices.Equal(m.Runnable(), []int{0, 1}) || !m.Wanted() {
		t.Errorf("all stand, and Runnable is %v", m.Runnable())
	}
	if !m.Pick(1) || m.Wanted() || m.Header(0) != 1 {
		t.Errorf("all stand, and what was asked for is not done: %#x", m.Header(0))
	}
}

// P21.2: a Deflate is done at once, if all stand; else as soon as they do. Rounds
// counts each once, whatever is asked for in it.
func TestDeflateLater(t *testing.T) {
	m := made(t, least(2), "enter 0; hash 0; exit 0", "holds 0")
	exhaust(m, 0)
	picks(t, m, 1, 1)
	for range 3 {
		if m.Deflate(); !m.Wanted() || len(m.Used()) != 1 || m.Rounds() != 0 {
			t.Errorf("one runs, and Wanted is %v, in use is %v", m.Wanted(), m.Used())
		}
	}
	picks(t, m, 1, 1)
	if !m.Wanted() || len(m.Used()) != 1 {
		t.Errorf("it was done ahead of the next Pick")
	}
	if m.Pick(0) || m.Wanted() || len(m.Used()) != 0 || m.Rounds() != 1 || m.Left() != 1 {
		t.Errorf("Wanted is %v, in use is %v, Rounds %d", m.Wanted(), m.Used(), m.Rounds())
	}
	if m.Deflate(); m.Wanted() || m.Rounds() != 2 {
		t.Errorf("Wanted is %v, Rounds %d", m.Wanted(), m.Rounds())
	}
}

// P21.2: nobody waits for a Deflate: one that asks for a revocation beside it, ahead of
// it or behind it, has that done as well, in the same round.
func TestDeflateBesideARevocation(t *testing.T) {
	for _, later := range []bool{false, true} {
		c := with(least(2), func(c *api.Config) { c.Objects, c.Classes, c.Bias = 2, 2, 2 })
		m := made(t, c, "enter 0; hash 0; exit 0; enter 1", "enter 1; holds 1")
		returns(t, m, 1, 0)
		calls(t, m, 1, 1)
		calls(t, m, 0, 3)
		picks(t, m, 0, 1)
		if later {
			m.Deflate()
		}
		if picks(t, m, 0, 1); !later {
			m.Deflate()
		}
		if !m.Wanted() || m.Rounds() != 0 || len(m.Used()) != 1 {
			t.Errorf("Wanted is %v, Rounds %d, in use is %v", m.Wanted(), m.Rounds(), m.Used())
		}
		picks(t, m, 1, 1)
		if m.Pick(-1); m.Wanted() || m.Rounds() != 1 || len(m.Used()) != 0 || headerText(m.Header(1)) != "thin t1 r1" {
			t.Errorf("Wanted is %v, Rounds %d, in use is %v, the header is %s", m.Wanted(), m.Rounds(), m.Used(), headerText(m.Header(1)))
		}
	}
}

// P21.2: of Tick a number below 0 is 0, and the time is at most MaxTicks.
func TestTicks(t *testing.T) {
	m := made(t, least(1), "")
	now := int64(0)
	for _, n := range []int64{0, -1, 1, -5, 7, math.MinInt64, 1 << 39, -1 << 40, api.MaxTicks - 1, 0, 1, api.MaxTicks, api.MaxTicks + 1, math.MaxInt64, -1} {
		m.Tick(n)
		if n > 0 {
			now += min(n, api.MaxTicks-now)
		}
		if m.Now() != now {
			t.Errorf("behind Tick(%d) the time is %d, not %d", n, m.Now(), now)
		}
	}
	if now != api.MaxTicks || m.Steps() != 0 {
		t.Errorf("the time is %d, Steps %d", now, m.Steps())
	}
	for _, n := range []int64{api.MaxTicks, api.MaxTicks + 1, math.MaxInt64} {
		m := made(t, least(1), "enter 0; wait 0 1000000")
		exhaust(m, 0)
		m.Tick(n)
		if _, err := returns(t, m, 0, 1); m.Now() != api.MaxTicks || err != api.ErrTime {
			t.Errorf("behind Tick(%d) the time is %d", n, m.Now())
		}
	}
}

// P21.3: of threads, objects, slots and cells that are none nothing is told.
func TestNumbersThatAreNone(t *testing.T) {
	m := busy(t)
	for _, n := range far {
		if m.Word(n) != 0 || m.Header(n) != 0 || m.Records(n, 0) != 0 || m.Records(0, n) != 0 || m.Records(1, n) != 0 {
			t.Errorf("of %d: %#x, %#x, %d records", n, m.Word(n), m.Header(n), m.Records(1, n))
		}
		if m.Ended(n) || m.Asleep(n) || m.Flag(n) || m.Entry(n) != nil || m.Ring(n) != nil {
			t.Errorf("of %d something is told", n)
		}
	}
	for n := 5; n < 20; n++ {
		if m.Records(n, 0) != 0 || m.Ended(n) || m.Asleep(n) || m.Flag(n) || m.Header(n) != 0 {
			t.Errorf("of the thread %d something is told", n)
		}
		if len(m.Entry(n-3)) != 0 || len(m.Ring(n-3)) != 0 || m.Records(0, n-3) != 0 {
			t.Errorf("of the slot %d something is told", n-3)
		}
	}
	if len(m.Ring(0)) != 1 || m.Records(1, 0) != 2 || m.Header(1) == 0 || m.Word(9) != 0x105 {
		t.Errorf("the ring is %v, records %d, the header %#x, the prototype %#x", m.Ring(0), m.Records(1, 0), m.Header(1), m.Word(9))
	}
}

// P21.3: of the greatest machine's first number that is none nothing is told.
func TestNumbersBehindTheGreatest(t *testing.T) {
	m := made(t, greatest(), "enter 0", "", "", "", "", "", "", "enter 7; hash 7")
	exhaust(m, 0)
	exhaust(m, 7)
	if m.Header(7) == 0 || m.Records(7, 7) != 1 || !m.Ended(7) || m.Word(127) == 0 {
		t.Errorf("of the last ones nothing is told: %#x, %#x", m.Header(7), m.Word(127))
	}
	for n := 8; n < 130; n++ {
		if m.Header(n) != 0 || m.Records(n, 7) != 0 || m.Records(7, n) != 0 || m.Ended(n) || m.Asleep(n) || m.Flag(n) {
			t.Errorf("of %d something is told", n)
		}
	}
	for n := range 20 {
		if len(m.Entry(n)) != 0 || len(m.Ring(n)) != 0 {
			t.Errorf("of the slot %d somebody is told", n)
		}
	}
}

// R4: what was answered, turned by whoever has it, turns nothing of the machine.
func TestAnswersAreTheCallers(t *testing.T) {
	m, other := busy(t), busy(t)
	for i := range 60 {
		was := all(m)
		scribble(m)
		if l := turned(was, all(m)); len(l) != 0 {
			t.Fatalf("by what was answered %v is turned", l)
		}
		if m.Pick(i%5) != other.Pick(i%5) || m.Steps() != other.Steps() {
			t.Fatal("what was answered turned the machine")
		}
	}
	if !reflect.DeepEqual(all(m), all(other)) || !reflect.DeepEqual(m.Log(), other.Log()) || m.Broken() {
		t.Error("what was answered turned the machine")
	}
}

// scribble writes into all that a machine answers.
func scribble(m *core.Machine) {
	for _, l := range [][]int{m.Runnable(), m.Entry(0), m.Entry(1), m.Used()} {
		for i := range l {
			l[i] = 99
		}
		_ = append(l, 98)
	}
	for _, l := range [][]ghost.Entry{m.Log(), m.Ghost().All()} {
		clear(l)
		_ = append(l, ghost.Entry{Kind: 9})
	}
	clear(m.Ring(0))
	clear(m.Pairs())
	clear(m.Classes())
}

// P21.3: a machine is broken, once its log refused an entry: what Ghost tells is the
// log itself, so whoever adds to it may bring that about.
func TestBrokenByLog(t *testing.T) {
	m := made(t, least(2), "hash 0; hash 0", "hash 0")
	call := ghost.Entry{Kind: ghost.Call, Op: api.Op{Kind: 7}}
	if m.Ghost().Add(call) != api.OK || len(m.Log()) != 1 || m.Ghost() != m.Ghost() {
		t.Error("Ghost is not the log itself")
	}
	if m.Broken() {
		t.Error("it is broken ahead of any step")
	}
	exhaust(m, 0)
	exhaust(m, 1)
	if !m.Broken() || !m.Ended(0) || !m.Ended(1) {
		t.Errorf("Broken is %v", m.Broken())
	}
}

// P21.3: a machine is broken, once a slot was of another generation than was read, by
// whoever looks at its lock word, at what it displaced, or at its ring.
func TestBrokenByGeneration(t *testing.T) {
	for _, prog := range []string{"enter 0", "try 0", "hash 0"} {
		m := made(t, least(2), "enter 0; hash 0; exit 0", prog)
		exhaust(m, 0)
		m.FreeSlot(0)
		if exhaust(m, 1); !m.Broken() {
			t.Errorf("%s: not broken by a slot that was freed", prog)
		}
	}
	for _, prog := range []string{"exit 0", "notify 0", "all 0", "enter 0"} {
		m := made(t, least(1), "enter 0; hash 0; "+prog)
		calls(t, m, 0, 2)
		m.FreeSlot(0)
		if exhaust(m, 0); !m.Broken() {
			t.Errorf("%s: not broken by a slot that was freed", prog)
		}
	}
	m := made(t, least(2), "enter 0; hash 0; exit 0", "enter 0")
	calls(t, m, 0, 2)
	exhaust(m, 1)
	m.FreeSlot(0)
	if exhaust(m, 0); !m.Broken() {
		t.Error("not broken by a slot that was freed as one leaves it")
	}
}

// P21.3: so by whoever turns a cell of the slot, behind its look.
func TestBrokenByGenerationBehindALook(t *testing.T) {
	for number := range 3 {
		m := made(t, least(2), "enter 0; wait 0 1; exit 0", "enter 0; hash 0; exit 0")
		exhaust(m, 0)
		m.Tick(1)
		exhaust(m, 0)
		calls(t, m, 1, number)
		picks(t, m, 1, 2)
		m.FreeSlot(0)
		if m.Broken() {
			t.Error("broken ahead of a look")
		}
		if picks(t, m, 1, 1); !m.Broken() {
			t.Errorf("not broken by a slot that was freed behind a look of the operation %d", number)
		}
	}
}

// P21.2: exit, wait, notify and all of what one does not own are ErrState,
// by whatever header, and turn nothing; the flag of who is interrupted stays.
func TestWrongOwners(t *testing.T) {
	for _, kind := range []string{"neutral", "biased", "biased to it", "biased to another", "thin", "inflating", "fat", "fat and free"} {
		for _, prog := range []string{"exit 0", "wait 0", "wait 0 5", "notify 0", "all 0"} {
			m := wrongOwner(t, kind, prog)
			was, number := all(m), 1
			if kind == "biased to it" {
				number = 3
			}
			n, err := returns(t, m, 1, number)
			want := 0
			if prog == "notify 0" {
				want = -1
			}
			if l := turned(was, all(m)); n != want || err != api.ErrState || len(l) != 1 || l[0] != "ended1 true" || !m.Flag(1) {
				t.Errorf("%s of what is %s: %d, %d, turned: %v", prog, kind, n, err, l)
			}
			if wrong := unsound(m); wrong != "" {
				t.Error(wrong)
			}
		}
	}
}

// wrongOwner is a machine whose object 0 is of some kind, and whose thread 1, which
// has the flag, does not own it, and is to do what is told.
func wrongOwner(t *testing.T, kind, prog string) *core.Machine {
	t.Helper()
	c := with(least(3), func(c *api.Config) { c.Objects = 2 })
	mine, theirs := "interrupt 1; "+prog, "enter 0; hash 0; exit 0"
	switch kind {
	case "biased", "biased to another", "biased to it":
		c.Bias = 1
		theirs = "enter 0; exit 0"
	}
	if kind == "biased to it" {
		mine = "enter 0; exit 0; " + mine
	}
	m := made(t, c, theirs, mine, "hash 0")
	switch kind {
	case "biased to it":
		returns(t, m, 1, 2)
		return m
	case "biased to another", "thin", "inflating":
		returns(t, m, 0, 0)
	case "fat":
		returns(t, m, 0, 1)
	case "fat and free":
		exhaust(m, 0)
	}
	if kind == "inflating" {
		until(t, m, 2, func() bool { return m.Header(0) == 0 })
	}
	returns(t, m, 1, 0)
	return m
}
