package core_test

import (
	"fmt"
	"slices"
	"strings"
	"testing"

	"futtock/api"
	"futtock/core"
	"futtock/draw"
	"futtock/klass"
	"futtock/model"
	"futtock/word"
)

// kind is the kind of an object's header.
func kind(m *core.Machine, o int) int { return word.Kind(m.Header(o)) }

// P21.2: one owns an object as often as Count says by whatever header, by enters and
// tries, and no oftener: ErrOver, which turns nothing.
func TestOver(t *testing.T) {
	for _, count := range []int{1, 2, 59, 60} {
		for _, ahead := range []string{"neutral", "biased", "fat"} {
			c := with(least(1), func(c *api.Config) { c.Count = count })
			last := "holds 0"
			switch ahead {
			case "biased":
				c.Bias = 1
			case "fat":
				last = "hash 0"
			}
			prog := "enter 0; " + last + strings.Repeat("; enter 0", count-1) + "; enter 0; try 0"
			m := made(t, c, prog)
			for i := range count + 1 {
				if _, err := returns(t, m, 0, i); err != api.OK {
					t.Fatalf("%s: the operation %d told %d", ahead, i, err)
				}
			}
			was := all(m)
			for i := range 2 {
				if n, err := returns(t, m, 0, count+1+i); n != 0 || err != api.ErrOver || m.Records(0, 0) != count {
					t.Errorf("%s, owned %d times: %d, %d, %d records", ahead, count, n, err, m.Records(0, 0))
				}
			}
			if l := turned(was, all(m)); !slices.Equal(l, []string{"ended0 true"}) {
				t.Errorf("%s: an ErrOver turned %v", ahead, l)
			}
			if wrong := unsound(m); wrong != "" {
				t.Error(wrong)
			}
		}
	}
}

// P21.2: one may have records of all objects at once, as many as there may be.
func TestManyRecords(t *testing.T) {
	c := greatest()
	c.Threads, c.Bias = 1, 6
	var prog []string
	for i := range 64 {
		prog = append(prog, fmt.Sprintf("enter %d", i%8))
	}
	m := made(t, c, strings.Join(prog, "; "))
	exhaust(m, 0)
	for o := range 8 {
		if m.Records(0, o) != 8 {
			t.Errorf("%d records of %d", m.Records(0, o), o)
		}
	}
	if wrong := unsound(m); wrong != "" {
		t.Error(wrong)
	}
}

// P21.2: who enters a Fat one that is owned looks at its lock word once, and Spin
// times again, ahead of putting itself there; if it is let go by then, it takes it.
func TestSpin(t *testing.T) {
	for spin := range 9 {
		c := with(least(2), func(c *api.Config) { c.Spin = spin })
		m := made(t, c, "enter 0; hash 0; exit 0", "enter 0; exit 0")
		returns(t, m, 0, 1)
		calls(t, m, 1, 0)
		// The header, the lock word, its next one, itself as the head, the lock word.
		if n := exhaust(m, 1); n != 1+1+spin+2+2 || !m.Asleep(1) {
			t.Errorf("Spin %d: %d steps till it sleeps", spin, n)
		}
		for looks := 1; looks <= spin; looks++ {
			m := made(t, c, "enter 0; hash 0; exit 0", "enter 0; exit 0")
			returns(t, m, 0, 1)
			calls(t, m, 1, 0)
			picks(t, m, 1, 1+looks)
			exhaust(m, 0)
			picks(t, m, 1, 2)
			if m.Records(1, 0) != 1 || m.Word(nextCell+1) != 0 || m.Word(lockCell) != 2 {
				t.Errorf("Spin %d: behind %d looks the lock word is %s", spin, looks, lockText(m.Word(lockCell)))
			}
		}
	}
}

// P21.2: it looks again so often each time that it enters, and as it enters anew behind
// a wait.
func TestSpinAnew(t *testing.T) {
	c := with(least(2), func(c *api.Config) { c.Spin = 3 })
	again := "enter 0; hash 0; exit 0; enter 0; notify 0; exit 0"
	m := made(t, c, again, "enter 0; exit 0; enter 0; exit 0")
	returns(t, m, 0, 1)
	calls(t, m, 1, 0)
	first := exhaust(m, 1)
	calls(t, m, 0, 3)
	returns(t, m, 1, 1)
	returns(t, m, 0, 3)
	calls(t, m, 1, 2)
	if second := exhaust(m, 1); first != 9 || second != 9 {
		t.Errorf("%d, then %d steps till it sleeps", first, second)
	}
	m = made(t, c, again, "enter 0; wait 0 1")
	returns(t, m, 0, 1)
	exhaust(m, 1)
	calls(t, m, 0, 3)
	exhaust(m, 1)
	returns(t, m, 0, 3)
	m.Tick(1)
	// Its state, its leaving, and then as above.
	if n := exhaust(m, 1); n != 2+9 || !m.Asleep(1) {
		t.Errorf("%d steps till it sleeps", n)
	}
}

// P21.2: one that is interrupted as it waits to enter wakes, looks, and sleeps again;
// it keeps its flag.
func TestInterruptedAsItEnters(t *testing.T) {
	m := made(t, least(3), "enter 0; hash 0; exit 0", "enter 0", "interrupt 1; interrupt 1")
	returns(t, m, 0, 1)
	exhaust(m, 1)
	for i := range 2 {
		returns(t, m, 2, i)
		if m.Asleep(1) || !m.Flag(1) || !slices.Contains(m.Runnable(), 1) {
			t.Error("who was interrupted is asleep")
		}
		if exhaust(m, 1); !m.Asleep(1) || m.Records(1, 0) != 0 {
			t.Error("who was interrupted owns what another one owns")
		}
	}
	exhaust(m, 0)
	if n, err := returns(t, m, 1, 0); n != 0 || err != api.OK || !m.Flag(1) {
		t.Errorf("its enter told %d, %d", n, err)
	}
}

// stood tells of each step of a thread whether it stands behind it ("s"), or runs
// ("r"): a Deflate is done at once, or is not.
func stood(t *testing.T, progs []string, thread int, ahead ...int) string {
	t.Helper()
	c := with(least(len(progs)), func(c *api.Config) { c.Objects = 2 })
	got := ""
	for many := 1; ; many++ {
		m := made(t, c, progs...)
		for _, first := range ahead {
			exhaust(m, first)
		}
		for range many {
			if !m.Pick(thread) {
				return got
			}
		}
		m.Deflate()
		if m.Wanted() {
			got += "r"
		} else {
			got += "s"
		}
	}
}

// P21.2: where a thread stands: between two operations, ahead of each look at a header
// (one to be the first, one that begins anew, one as there is no slot), and as it looks
// whether it was handed a monitor, or told; and nowhere else, but where it sleeps.
func TestWhereOneStands(t *testing.T) {
	for _, x := range []struct {
		progs  []string
		thread int
		ahead  []int
		want   string
	}{
		// It calls, looks, saves, puts the Thin one there, returns; then so to leave.
		{[]string{"enter 0; exit 0"}, 0, nil, "srrss" + "srrss"},
		{[]string{"holds 0; interrupt 0; hash 0; exit 0"}, 0, nil, "rss" + "rss" + "srss" + "sss"},
		// It inflates, begins anew, waits, leaves, looks whether it was told, sleeps.
		{[]string{"enter 0; wait 0"}, 0, nil, "srrss" + "srrrrrrs" + "rrrsrs"},
		// It finds no slot, and looks once more.
		{[]string{"enter 0; hash 0", "enter 1", "hash 1"}, 2, []int{0, 1}, "srsss"},
		// It puts itself there, looks whether it was handed the monitor, sleeps.
		{[]string{"enter 0; hash 0", "enter 0"}, 1, []int{0}, "srrrsrs"},
	} {
		if got := stood(t, x.progs, x.thread, x.ahead...); got != x.want {
			t.Errorf("%q: %s, not %s", x.progs, got, x.want)
		}
	}
}

// P21.2: one that is unparked as it is awake does not sleep at its next Park: one who
// is handed the monitor between its look and its sleep.
func TestHandedAsOneFallsAsleep(t *testing.T) {
	for steps := range 12 {
		m := made(t, least(2), "enter 0; hash 0; exit 0", "enter 0; exit 0")
		returns(t, m, 0, 1)
		calls(t, m, 1, 0)
		for range steps {
			m.Pick(1)
		}
		exhaust(m, 0)
		exhaust(m, 1)
		if !m.Ended(0) || !m.Ended(1) || m.Word(lockCell) != 0 {
			t.Errorf("behind %d steps of 1: it ended: %v, the lock word is %s", steps, m.Ended(1), lockText(m.Word(lockCell)))
		}
		if wrong := unsound(m); wrong != "" {
			t.Error(wrong)
		}
	}
}

// P21.2: all of up to seven that wait to enter are handed the monitor one by one, in
// the order in which they came, whether they were drained at once or one by one.
func TestHandedInOrder(t *testing.T) {
	for _, order := range [][]int{{1, 2, 3, 4, 5, 6, 7}, {7, 6, 5, 4, 3, 2, 1}, {3, 7, 1, 5, 2, 6, 4}} {
		for early := range 8 {
			texts := []string{"enter 0; hash 0; exit 0"}
			for range 7 {
				texts = append(texts, "enter 0; exit 0")
			}
			m := made(t, least(8), texts...)
			returns(t, m, 0, 1)
			for _, thread := range order[:early] {
				exhaust(m, thread)
			}
			exhaust(m, 0)
			for _, thread := range order[early:] {
				exhaust(m, thread)
			}
			for range 20 {
				for thread := range 8 {
					exhaust(m, thread)
				}
			}
			var got []int
			for _, e := range commits(m, model.Enter)[1:] {
				got = append(got, e.Thread)
			}
			if !slices.Equal(got, order) {
				t.Errorf("%d came early of %v, and they own it as %v", early, order, got)
			}
			if wrong := unsound(m); wrong != "" {
				t.Error(wrong)
			}
		}
	}
}

// P21.2: one that left its wait by itself, and finds no slot as it enters anew, is not
// told ErrOut: it begins anew, till it owns the object as often as it did.
func TestLateWithoutSlot(t *testing.T) {
	c := with(least(3), func(c *api.Config) { c.Objects = 2 })
	m := made(t, c, "enter 0; enter 0; wait 0 1; exit 0", "enter 0; notify 0; exit 0; enter 0; exit 0", "enter 1; hash 1")
	exhaust(m, 0)
	m.Tick(1)
	until(t, m, 0, func() bool { return len(commits(m, model.Leave)) == 1 })
	if n, err := returns(t, m, 1, 1); n != -1 || err != api.OK || len(m.Ring(0)) != 0 {
		t.Fatalf("notify told %d, %d", n, err)
	}
	returns(t, m, 1, 2)
	if m.Deflate(); kind(m, 0) != word.Neutral {
		t.Fatalf("the header is %s", headerText(m.Header(0)))
	}
	returns(t, m, 1, 3)
	exhaust(m, 2)
	if len(m.Used()) != 1 || kind(m, 1) != word.Fat || kind(m, 0) != word.Thin {
		t.Fatalf("in use are %v, the header is %s", m.Pairs(), headerText(m.Header(0)))
	}
	if n := exhaust(m, 0); n != 1000 || m.Records(0, 0) != 0 || len(commits(m, model.End)) != 0 {
		t.Errorf("it did %d steps: %v", n, commits(m, model.End))
	}
	exhaust(m, 1)
	if n, err := returns(t, m, 0, 2); n != 0 || err != api.ErrTime || m.Records(0, 0) != 2 || kind(m, 0) != word.Thin || m.Word(stateCell) != 0 {
		t.Errorf("its wait told %d, %d; it has %d records, the header is %s", n, err, m.Records(0, 0), headerText(m.Header(0)))
	}
	if wrong := unsound(m); wrong != "" {
		t.Error(wrong)
	}
}

// P21.2: a class's revocations are counted, and it begins a new epoch at each multiple
// of Rebias, until at Revoke its objects are biased no more; other classes stay.
func TestRevocationsOfAClass(t *testing.T) {
	for rebias := 1; rebias <= 7; rebias++ {
		for revoke := rebias; revoke <= 8; revoke++ {
			c := with(least(1), func(c *api.Config) { c.Objects, c.Bias, c.Rebias, c.Revoke = 8, 1, rebias, revoke })
			m := made(t, c, "hash 0; hash 1; hash 2; hash 3; hash 4; hash 5; hash 6; hash 7")
			want := klass.Class{Biased: true}
			for i := range 8 {
				if want.Biased {
					want.Count++
					switch {
					case want.Count >= revoke:
						want.Biased = false
					case want.Count%rebias == 0:
						want.Epoch++
					}
				}
				returns(t, m, 0, i)
				revoked := m.Classes()[0]
				if revoked != want || m.Word(protoCell) != want.Header() || m.Rounds() != want.Count {
					t.Fatalf("Rebias %d, Revoke %d, behind %d: the class is %+v, the prototype %s, Rounds %d", rebias, revoke, i, revoked, headerText(m.Word(protoCell)), m.Rounds())
				}
				for o := i + 1; o < 8; o++ {
					if (kind(m, o) == word.Biased) != want.Biased {
						t.Fatalf("Rebias %d, Revoke %d, behind %d: the header of %d is %s", rebias, revoke, i, o, headerText(m.Header(o)))
					}
				}
			}
			if wrong := unsound(m); wrong != "" {
				t.Error(wrong)
			}
		}
	}
}

// P21.2: several who ask for one revocation have it done once; several revocations are
// done in one round, and each is counted.
func TestRevocationsInOneRound(t *testing.T) {
	c := with(least(4), func(c *api.Config) { c.Objects, c.Classes, c.Bias = 4, 2, 3 })
	m := made(t, c, "hash 0", "hash 0", "hash 2", "hash 1; hash 3")
	// Each is between its look and its asking but for the last one: all stand then.
	for thread := range 4 {
		picks(t, m, thread, 1)
	}
	picks(t, m, 0, 1)
	if m.Pick(1); m.Rounds() != 1 || m.Classes()[0].Count != 1 || m.Classes()[1].Count != 0 {
		t.Errorf("Rounds %d, the classes are %+v", m.Rounds(), m.Classes())
	}
	c.Bias, c.Rebias, c.Revoke = 1, 1, 1
	m = made(t, c, "enter 0; enter 2", "enter 0", "enter 0", "enter 2")
	exhaust(m, 0)
	// They stand no more behind their look at the header, and ask one by one.
	for thread := 1; thread < 4; thread++ {
		picks(t, m, thread, 2)
	}
	for thread := 1; thread < 4; thread++ {
		picks(t, m, thread, 1)
	}
	if !m.Wanted() || m.Rounds() != 0 || len(m.Runnable()) != 3 {
		t.Errorf("Wanted is %v, Rounds %d, Runnable %v", m.Wanted(), m.Rounds(), m.Runnable())
	}
	m.Pick(-1)
	if m.Wanted() || m.Rounds() != 1 || m.Classes()[0] != (klass.Class{Count: 2}) {
		t.Errorf("Wanted is %v, Rounds %d, the class is %+v", m.Wanted(), m.Rounds(), m.Classes()[0])
	}
	for _, o := range []int{0, 2} {
		if headerText(m.Header(o)) != fmt.Sprintf("thin t0 r%d", o) || m.Word(savedAt(0, o)) != 1 {
			t.Errorf("the header of %d is %s, saved is %#x", o, headerText(m.Header(o)), m.Word(savedAt(0, o)))
		}
	}
}

// P21.2: as one waits for a revocation others sleep, or ended, or stand: all these do
// not keep it from being done.
func TestRevokedWhileOthersSleep(t *testing.T) {
	c := with(least(4), func(c *api.Config) { c.Objects, c.Classes, c.Slots, c.Bias = 2, 2, 2, 2 })
	m := made(t, c, "enter 0; wait 0", "enter 0; exit 0", "enter 1", "hash 1")
	exhaust(m, 0)
	exhaust(m, 1)
	exhaust(m, 2)
	picks(t, m, 3, 2)
	if !m.Wanted() || !slices.Equal(m.Runnable(), []int{3}) || !m.Asleep(0) {
		t.Errorf("Wanted is %v, Runnable %v", m.Wanted(), m.Runnable())
	}
	if n, err := returns(t, m, 3, 0); n != 1018463418 || err != api.OK || m.Rounds() != 1 {
		t.Errorf("hash told %d, %d, Rounds %d", n, err, m.Rounds())
	}
}

// P21.2: each object's hash is the next one of the source of Seed as it is asked for
// first, whoever asks, and stays so whatever becomes of the header.
func TestHashes(t *testing.T) {
	for _, seed := range []uint64{0, 1, 88172645463325252, 1<<64 - 1} {
		for _, bias := range []uint8{0, 1, 2, 3} {
			c := api.Config{Threads: 2, Objects: 8, Classes: 2, Slots: 3, Count: 2, Bias: bias, Rebias: 1, Revoke: 3, Seed: seed}
			m := made(t, c, "hash 5; hash 0; enter 0; hash 0; exit 0; hash 0; enter 1; exit 1; hash 1; enter 1; hash 1; exit 1; hash 5", "hash 0; hash 7; enter 7; hash 7; enter 1; hash 1; hash 5; exit 1")
			source, drawn := draw.New(seed), map[int]int{}
			order := []int{0, 1, 0, 0, 1, 0, 1, 0, 1, 0, 0, 0, 0, 0, 0, 0, 0, 1, 1, 1, 1}
			done := [2]int{}
			for _, thread := range order {
				n, err := returns(t, m, thread, done[thread])
				done[thread]++
				log := m.Log()
				o := lastCall(m, thread)
				if o.Kind != 7 {
					continue
				}
				if drawn[o.Obj] == 0 {
					drawn[o.Obj] = int(source.Hash())
				}
				if n != drawn[o.Obj] || err != api.OK {
					t.Errorf("seed %d: the hash of %d is %d, %d, not %d, behind %d entries", seed, o.Obj, n, err, drawn[o.Obj], len(log))
				}
				m.Deflate()
			}
			if wrong := unsound(m); wrong != "" {
				t.Error(wrong)
			}
		}
	}
}

// lastCall is the operation that a thread called last.
func lastCall(m *core.Machine, thread int) api.Op {
	var o api.Op
	for _, e := range m.Log() {
		if e.Kind == 1 && e.Thread == thread {
			o = e.Op
		}
	}
	return o
}

// P21.2: of two who come to hash one object both tell the one's hash, and the next
// object has the source's next one: none is lost by a CAS that is false.
func TestHashesThatMeet(t *testing.T) {
	for _, ahead := range []string{"holds 1", "enter 0"} {
		for steps := range 14 {
			m := made(t, with(least(3), func(c *api.Config) { c.Objects = 2 }), ahead+"; holds 0", "hash 0", "hash 0; hash 1")
			returns(t, m, 0, 0)
			for range steps {
				m.Pick(1)
			}
			exhaust(m, 2)
			exhaust(m, 1)
			exhaust(m, 2)
			a, _ := returned(m, 1, 0)
			b, _ := returned(m, 2, 0)
			next, _ := returned(m, 2, 1)
			if a.Err == api.ErrOut || b.Err == api.ErrOut {
				continue
			}
			if a.Value != 1018463418 || b.Value != a.Value || next.Value != 354007467 {
				t.Errorf("behind %d steps the hashes are %d, %d, %d", steps, a.Value, b.Value, next.Value)
			}
		}
	}
}

// P21.2: a Deflate takes what is idle alone: not what is owned, whom somebody waits to
// enter, or waits at; those stay as they are. A slot that is freed is taken anew, by
// whoever needs it, of another generation.
func TestDeflateWhatIsIdle(t *testing.T) {
	c := with(least(6), func(c *api.Config) { c.Objects, c.Slots = 4, 4 })
	m := made(t, c, "enter 0; hash 0; exit 0; hash 2; enter 2; hash 2; exit 2", "enter 1; wait 1 5", "enter 2; hash 2; exit 2", "enter 3; hash 3; exit 3", "enter 3", "enter 1")
	for thread := range 3 {
		returns(t, m, thread, 0)
	}
	returns(t, m, 0, 2)
	exhaust(m, 1)
	returns(t, m, 2, 2)
	returns(t, m, 3, 1)
	exhaust(m, 4)
	if got := m.Used(); !slices.Equal(got, []int{0, 1, 2, 3}) || m.Left() != 0 {
		t.Fatalf("in use are %v", got)
	}
	hashes := []int{m.Ghost().Model().Hash(0), m.Ghost().Model().Hash(2)}
	m.Deflate()
	if got := m.Used(); !slices.Equal(got, []int{1, 3}) || m.Left() != 2 {
		t.Fatalf("in use are %v", m.Pairs())
	}
	for i, o := range []int{0, 2} {
		if headerText(m.Header(o)) != fmt.Sprintf("neutral #%d", hashes[i]) {
			t.Errorf("the header of %d is %s", o, headerText(m.Header(o)))
		}
	}
	exhaust(m, 0)
	if headerText(m.Header(2)) != "fat 0.1" {
		t.Errorf("the header of 2 is %s", headerText(m.Header(2)))
	}
	m.Tick(5)
	m.Deflate()
	if got := m.Used(); !slices.Equal(got, []int{1, 3}) {
		t.Errorf("in use are %v", m.Pairs())
	}
	if wrong := unsound(m); wrong != "" {
		t.Error(wrong)
	}
}

// P21.2: where all slots are free again any thread may take any of them: a deflation,
// and an inflation that failed, leave none to one thread alone.
func TestFreedSlotsAreAnyones(t *testing.T) {
	c := with(least(2), func(c *api.Config) { c.Objects = 2 })
	m := made(t, c, "enter 0; hash 0; exit 0", "enter 1; hash 1; exit 1")
	exhaust(m, 0)
	m.Deflate()
	if _, err := returns(t, m, 1, 1); err != api.OK || headerText(m.Header(1)) != "fat 0.1" {
		t.Errorf("hash told %d, the header is %s", err, headerText(m.Header(1)))
	}
	m = made(t, c, "enter 0; exit 0; enter 1; hash 1", "hash 0")
	returns(t, m, 0, 0)
	// The other one has the slot as the header is let go.
	picks(t, m, 1, 3)
	returns(t, m, 0, 1)
	exhaust(m, 1)
	if _, err := returns(t, m, 0, 3); err != api.OK || headerText(m.Header(1)) != "fat 0.1" {
		t.Errorf("hash told %d, the header is %s", err, headerText(m.Header(1)))
	}
}

// P21.6: up to sixteen slots: as many objects as there are may be Fat, each by a slot
// of its own; and one fewer is ErrOut for the last one.
func TestSlots(t *testing.T) {
	for _, slots := range []int{1, 2, 7, 8, 15, 16} {
		c := with(least(1), func(c *api.Config) { c.Objects, c.Slots = 8, slots })
		var prog []string
		for o := range 8 {
			prog = append(prog, fmt.Sprintf("enter %d; hash %d", o, o))
		}
		m := made(t, c, strings.Join(prog, "; "))
		exhaust(m, 0)
		for o := range 8 {
			e, _ := returned(m, 0, 2*o+1)
			want, text := api.OK, fmt.Sprintf("fat %d.0", o)
			if o >= slots {
				want, text = api.ErrOut, fmt.Sprintf("thin t0 r%d", o)
			}
			if e.Err != want || headerText(m.Header(o)) != text {
				t.Errorf("of %d slots the hash of %d told %d, the header is %s", slots, o, e.Err, headerText(m.Header(o)))
			}
		}
		if wrong := unsound(m); wrong != "" {
			t.Error(wrong)
		}
	}
}

// P21.2: which threads are unparked by a Tick: those whose alarms are due, as they
// come, and no others; one that is not yet asleep does not fall asleep then.
func TestWhoIsUnparkedByTick(t *testing.T) {
	m := made(t, with(least(4), func(c *api.Config) { c.Objects = 1 }), "enter 0; wait 0 3", "enter 0; wait 0 5", "enter 0; wait 0", "enter 0; wait 0 3")
	for thread := range 4 {
		exhaust(m, thread)
	}
	for _, x := range []struct {
		n    int64
		want []int
	}{{0, nil}, {1, nil}, {1, nil}, {1, []int{0, 3}}, {0, []int{0, 3}}, {1, []int{0, 3}}, {1, []int{0, 1, 3}}, {100, []int{0, 1, 3}}} {
		if m.Tick(x.n); !slices.Equal(m.Runnable(), x.want) {
			t.Errorf("at %d Runnable is %v, not %v", m.Now(), m.Runnable(), x.want)
		}
	}
	m = made(t, least(1), "enter 0; wait 0 3")
	until(t, m, 0, func() bool { return len(commits(m, model.Begin)) == 1 })
	m.Tick(3)
	if _, err := returns(t, m, 0, 1); err != api.ErrTime {
		t.Errorf("its wait told %d", err)
	}
}
