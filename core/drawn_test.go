package core_test

import (
	"fmt"
	"reflect"
	"strings"
	"testing"

	"futtock/api"
	"futtock/core"
	"futtock/draw"
	"futtock/ghost"
	"futtock/model"
	"futtock/op"
	"futtock/word"
)

// numbers are of no pattern, and the same ones each time.
type numbers uint64

func (n *numbers) below(end int) int {
	*n = *n*6364136223846793005 + 1442695040888963407
	return int(uint64(*n) >> 33 % uint64(end))
}

// one is one of some numbers.
func (n *numbers) one(l ...int) int { return l[n.below(len(l))] }

// config is a drawn configuration; few objects and slots, so that threads meet.
func (n *numbers) config() api.Config {
	rebias := n.one(1, 1, 2, 3, 100)
	return api.Config{
		Threads: n.one(1, 2, 2, 3, 3, 4, 5, 6, 7, 8),
		Objects: n.one(1, 1, 1, 2, 2, 3, 8),
		Classes: n.one(1, 1, 2, 3, 4),
		Slots:   n.one(1, 1, 2, 3, 16),
		Spin:    n.one(0, 0, 1, 3, 8),
		Count:   n.one(1, 2, 3, 60),
		Bias:    uint8(n.one(0, 1, 2, 5, 255, 255)),
		Rebias:  rebias,
		Revoke:  min(100, rebias*n.one(1, 2, 5, 100)),
		Seed:    uint64(n.below(1 << 20)),
	}
}

// operation is a drawn one, by how often the kinds come.
func (n *numbers) operation(c api.Config, kinds ...int) api.Op {
	o := api.Op{Kind: n.one(kinds...), Obj: n.below(c.Objects)}
	switch o.Kind {
	case op.Wait:
		o.Arg = n.one(0, 1, 1, 2, 5, 30)
	case op.Interrupt:
		o.Obj, o.Arg = 0, n.below(c.Threads)
	}
	return o
}

// wild is a drawn program of any operations.
func (n *numbers) wild(c api.Config) []api.Op {
	var prog []api.Op
	for range n.one(0, 3, 8, 12, 20) {
		prog = append(prog, n.operation(c, 1, 1, 1, 1, 2, 2, 3, 3, 3, 3, 4, 4, 4, 5, 5, 6, 7, 8, 9))
	}
	return prog
}

// easy is a drawn program that lets go all it enters, each time ahead of entering
// anything else, and never waits for ever: by layer 29's words an easy one.
func (n *numbers) easy(c api.Config) []api.Op {
	var prog []api.Op
	for len(prog) < n.one(1, 10, 25) {
		if n.below(4) == 0 {
			prog = append(prog, n.operation(c, 7, 8, 9))
			continue
		}
		obj := n.below(c.Objects)
		prog = append(prog, api.Op{Kind: op.Enter, Obj: obj})
		for range n.below(4) {
			o := n.operation(c, 4, 4, 4, 5, 5, 6, 7, 8, 9)
			if o.Kind != op.Interrupt {
				o.Obj = obj
			}
			if o.Kind == op.Wait {
				o.Arg = max(o.Arg, 1)
			}
			prog = append(prog, o)
		}
		prog = append(prog, api.Op{Kind: op.Exit, Obj: obj})
	}
	return prog
}

// history is what is known of a machine that was watched from its beginning on.
type history struct {
	t      *testing.T
	c      api.Config
	m      *core.Machine
	told   map[string]int
	source *draw.Source
	// Of each slot the generation that it had last, and 1; of each object whether its
	// header was Fat.
	gens [api.MaxSlots]int64
	fats [api.MaxObjects]uint64
	// last is the entry that was noted last.
	last ghost.Entry
	// since is when a thread began to wait.
	since [api.MaxThreads]int64
}

// watched is a machine that is watched.
func watched(t *testing.T, c api.Config, progs [][]api.Op, told map[string]int) *history {
	t.Helper()
	m, err := core.New(c, progs)
	if err != api.OK {
		t.Fatalf("New of %+v, %v is %d", c, progs, err)
	}
	return &history{t: t, c: c, m: m, told: told, source: draw.New(c.Seed)}
}

// move does a move, and tells if something is wrong behind it.
func (h *history) move(move string) {
	h.t.Helper()
	before := seen(h.m)
	plainMove(h.m, move)
	wrong := before.wrong(h.m, move)
	if wrong == "" {
		wrong = unsoundWords(h.m)
	}
	if wrong == "" {
		wrong = h.wrongLog(before.entries)
	}
	if wrong == "" {
		wrong = h.wrongGenerations()
	}
	if wrong == "" {
		wrong = h.wrongWaits(before)
	}
	if wrong != "" {
		h.t.Fatalf("%+v, %s: %s\n%s", h.c, move, wrong, logText(h.m))
	}
}

// wrongLog is what is wrong with what was noted: that what was there ahead is another
// one, or a new hash is not the source's next one.
func (h *history) wrongLog(many int) string {
	log := h.m.Log()
	if many > 0 && log[many-1] != h.last {
		return "the log's beginning is another one"
	}
	for _, e := range log[many:] {
		if e.Kind == ghost.Commit {
			h.told[kinds[e.Event.Kind]+" "+errs[e.Event.Err]]++
		}
		if x := e.Event; x.Kind == model.Hash && x.Err == api.OK && h.isNew(log, x) {
			if want := int(h.source.Hash()); x.Arg != want {
				return fmt.Sprintf("the hash of %d is %d, not the source's next one, %d", x.Obj, x.Arg, want)
			}
		}
	}
	if len(log) > 0 {
		h.last = log[len(log)-1]
	}
	return ""
}

// isNew tells whether a commit of a hash is the first one of its object.
func (h *history) isNew(log []ghost.Entry, x model.Event) bool {
	n := 0
	for _, e := range log {
		if e.Event.Kind == model.Hash && e.Event.Obj == x.Obj && e.Event.Err == api.OK {
			n++
		}
	}
	return n == 1
}

// wrongGenerations is what is wrong with headers that came to be Fat: that one has a
// slot's generation that was told before.
func (h *history) wrongGenerations() string {
	for o := range h.c.Objects {
		w := h.m.Header(o)
		was := h.fats[o]
		if h.fats[o] = w; w == was {
			continue
		}
		x, _ := word.Read(w)
		if x.Kind != word.Fat {
			continue
		}
		if int64(x.Gen) < h.gens[x.Slot] {
			return fmt.Sprintf("the slot %d of the generation %d is told anew", x.Slot, x.Gen)
		}
		h.gens[x.Slot] = int64(x.Gen) + 1
	}
	return ""
}

// wrongWaits is what is wrong with those who wait: that one is late ahead of its time,
// or sleeps behind it.
func (h *history) wrongWaits(before view) string {
	for t := range h.c.Threads {
		was, is := before.words[stateCell+t], h.m.Word(stateCell+t)
		if was == 0 && is == 1 {
			h.since[t] = h.m.Now()
		}
		o, _ := h.m.Ghost().Open(t)
		over := o.Arg > 0 && h.m.Now() >= h.since[t]+int64(o.Arg)
		switch {
		case was == 1 && is == 3 && !over:
			return fmt.Sprintf("%d is late at %d, and waits since %d for %d", t, h.m.Now(), h.since[t], o.Arg)
		case is == 1 && over && h.m.Asleep(t):
			return fmt.Sprintf("%d sleeps at %d, and waits since %d for %d", t, h.m.Now(), h.since[t], o.Arg)
		}
	}
	return ""
}

// drift lets it do so many drawn moves: a thread is picked some times, one after
// another, now and then one that may not go on, too.
func (h *history) drift(n *numbers, moves int) {
	h.t.Helper()
	for range moves {
		may := h.m.Runnable()
		switch k := n.below(40); {
		case k == 0:
			h.move("d")
		case k < 4:
			h.move("+1")
		case k == 4:
			h.refuses(n.below(h.c.Threads+2)-1, may)
		case len(may) > 0:
			t := may[n.below(len(may))]
			for range n.one(1, 1, 1, 2, 5, 12) {
				if !contains(h.m.Runnable(), t) {
					break
				}
				h.move(fmt.Sprint(t))
			}
		}
	}
}

// refuses tells if a Pick of a thread is not true just if it may go on.
func (h *history) refuses(t int, may []int) {
	h.t.Helper()
	if contains(may, t) {
		h.move(fmt.Sprint(t))
		return
	}
	was, steps, entries, rounds := all(h.m), h.m.Steps(), h.m.Ghost().Len(), h.m.Rounds()
	if h.m.Pick(t) || h.m.Steps() != steps || h.m.Ghost().Len() != entries {
		h.t.Fatalf("%d may not go on, and does: %v may", t, may)
	}
	if l := turned(was, all(h.m)); len(l) != 0 && h.m.Rounds() == rounds {
		h.t.Fatalf("by a Pick of %d that is false %v is turned", t, l)
	}
}

// contains tells whether a thread is one of those.
func contains(l []int, t int) bool {
	for _, x := range l {
		if x == t {
			return true
		}
	}
	return false
}

// isRight tells if the log is not right, from its beginning on.
func (h *history) isRight() {
	h.t.Helper()
	if wrong := unsound(h.m); wrong != "" {
		h.t.Fatalf("%+v: %s", h.c, wrong)
	}
}

// finish picks all in turns, and lets the time go on, till all ended or nobody may go
// on any more, so many rounds at most: did it come to that?
func (h *history) finish(rounds int) bool {
	h.t.Helper()
	for range rounds {
		for t := range h.c.Threads {
			if contains(h.m.Runnable(), t) {
				h.move(fmt.Sprint(t))
			}
		}
		h.move("+1")
		if h.m.Pick(-1); len(h.m.Runnable()) == 0 && !alarms(h.m) {
			return true
		}
	}
	return false
}

// alarms tells whether somebody waits for some time.
func alarms(m *core.Machine) bool {
	for t := range m.Config().Threads {
		if o, ok := m.Ghost().Open(t); ok && o.Kind == op.Wait && o.Arg > 0 && m.Word(stateCell+t) == 1 {
			return true
		}
	}
	return false
}

// all that is told in some of many runs.
var everything = strings.Split("enter ok,enter over,enter out,try ok,try over,try busy,exit ok,exit state,begin ok,begin state,begin intr,begin out,"+
	"leave time,leave intr,end ok,end time,end intr,wake ok,notify ok,notify state,all ok,all state,hash ok,hash out,holds ok,interrupt ok", ",")

// P21.4 to P21.6: drawn machines of up to eight threads and drawn programs of any
// operations: at each step nothing is wrong, at the end the log is right, and whoever
// goes on no more has a reason.
func TestDrawn(t *testing.T) {
	for part := range 8 {
		t.Run(fmt.Sprint(part), func(t *testing.T) {
			t.Parallel()
			n, told, ended := numbers(part), map[string]int{}, 0
			for range 150 {
				c := n.config()
				var progs [][]api.Op
				for range c.Threads {
					progs = append(progs, n.wild(c))
				}
				h := watched(t, c, progs, told)
				h.drift(&n, n.one(50, 300, 1000))
				h.isRight()
				if h.finish(200) {
					ended++
					if wrong := wrongEnd(h.m); wrong != "" {
						t.Fatalf("%+v, %v: %s\n%s", c, progs, wrong, logText(h.m))
					}
				}
				h.isRight()
			}
			for _, name := range everything {
				if told[name] == 0 {
					t.Errorf("%q was never told: %v", name, told)
				}
			}
			if ended < 140 {
				t.Errorf("just %d machines ended", ended)
			}
		})
	}
}

// P21.2, P21.4: drawn machines whose programs let go what they enter, and wait for
// some time at most: all of them end, and a Deflate leaves no slot in use.
func TestDrawnEasy(t *testing.T) {
	for part := range 8 {
		t.Run(fmt.Sprint(part), func(t *testing.T) {
			t.Parallel()
			n, told := numbers(part+100), map[string]int{}
			for range 100 {
				c := n.config()
				var progs [][]api.Op
				for range c.Threads {
					progs = append(progs, n.easy(c))
				}
				h := watched(t, c, progs, told)
				h.drift(&n, n.one(0, 100, 500))
				if !h.finish(3000) {
					t.Fatalf("%+v, %v: they do not end\n%s", c, progs, logText(h.m))
				}
				h.isRight()
				hasAllEnded(t, h.m)
			}
		})
	}
}

// hasAllEnded tells if a thread has not ended, or a Deflate leaves a slot in use.
func hasAllEnded(t *testing.T, m *core.Machine) {
	t.Helper()
	c := m.Config()
	for thread := range c.Threads {
		if !m.Ended(thread) {
			t.Fatalf("%d does not end\n%s", thread, logText(m))
		}
	}
	m.Deflate()
	if len(m.Used()) != 0 || m.Left() != c.Slots || m.Wanted() {
		t.Fatalf("in use are %v, %d are left", m.Used(), m.Left())
	}
	meant := m.Ghost().Model()
	for o := range c.Objects {
		x, _ := word.Read(m.Header(o))
		if x.Kind != word.Neutral && x.Kind != word.Biased || int(x.Hash) != meant.Hash(o) {
			t.Fatalf("the header of %d is %s", o, headerText(m.Header(o)))
		}
	}
}

// R3: the same calls on two machines do the same.
func TestSameCallsDoTheSame(t *testing.T) {
	n := numbers(5)
	for range 60 {
		c := n.config()
		var progs [][]api.Op
		for range c.Threads {
			progs = append(progs, n.wild(c))
		}
		a, _ := core.New(c, progs)
		b, _ := core.New(c, progs)
		for i := range 300 {
			move := fmt.Sprint(n.below(c.Threads))
			switch n.below(20) {
			case 0:
				move = "d"
			case 1:
				move = "+1"
			}
			plainMove(a, move)
			plainMove(b, move)
			if i%20 == 0 && (!reflect.DeepEqual(all(a), all(b)) || !reflect.DeepEqual(a.Runnable(), b.Runnable())) {
				t.Fatalf("%+v: two machines are not the same: %v", c, turned(all(a), all(b)))
			}
		}
		if !reflect.DeepEqual(all(a), all(b)) || !reflect.DeepEqual(a.Log(), b.Log()) || a.Steps() != b.Steps() || a.Fingerprint() != b.Fingerprint() {
			t.Fatalf("%+v: two machines are not the same: %v", c, turned(all(a), all(b)))
		}
	}
}
