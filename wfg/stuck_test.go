package wfg_test

import (
	"fmt"
	"slices"
	"testing"

	"futtock/api"
	"futtock/core"
	"futtock/ghost"
	"futtock/model"
	"futtock/op"
	"futtock/wfg"
)

// config is a drawn configuration; few objects, so that threads meet.
func (n *numbers) config() api.Config {
	return api.Config{
		Threads: n.one(1, 2, 3, 3, 4, 4, 5, 6, 7, 8, 8),
		Objects: n.one(1, 2, 3, 3, 4, 4, 8),
		Classes: n.one(1, 1, 2, 4),
		Slots:   n.one(1, 2, 3, 16, 16, 16),
		Spin:    n.one(0, 0, 1, 3, 8),
		Count:   n.one(1, 2, 60),
		Bias:    uint8(n.one(0, 0, 1, 2, 255, 255)),
		Rebias:  n.one(1, 2, 3),
		Revoke:  n.one(3, 5, 100),
		Seed:    uint64(n.below(1 << 20)),
	}
}

// programs are drawn ones, of each thread of a configuration; if there are to be
// interrupts, the last one does nothing else.
func (n *numbers) programs(c api.Config, interrupts bool) [][]api.Op {
	progs := make([][]api.Op, c.Threads)
	for t := range progs {
		for many := n.one(1, 2, 4, 12); many > 0 && len(progs[t]) < 40; many-- {
			progs[t] = append(progs[t], n.visit(c, n.below(c.Objects), n.one(1, 2, 2, 3))...)
		}
		progs[t] = progs[t][:min(len(progs[t]), n.one(3, 8, 64, 64))]
	}
	if interrupts {
		last := []api.Op{}
		for range 64 {
			last = append(last, api.Op{Kind: op.Interrupt, Arg: n.below(c.Threads)})
		}
		progs[c.Threads-1] = last
	}
	return progs
}

// visit are drawn operations that enter an object, do something there, enter others in
// between, mostly the next ones, and leave it.
func (n *numbers) visit(c api.Config, obj, deep int) []api.Op {
	l := []api.Op{{Kind: op.Enter, Obj: obj}}
	for range n.below(3) {
		l = append(l, n.there(obj))
	}
	if deep > 1 {
		l = append(l, n.visit(c, (obj+n.one(1, 1, 1, 2))%c.Objects, deep-1)...)
	}
	for range n.below(2) {
		l = append(l, n.there(obj))
	}
	return append(l, api.Op{Kind: op.Exit, Obj: obj})
}

// there is a drawn operation at an object.
func (n *numbers) there(obj int) api.Op {
	o := api.Op{Kind: n.one(2, 4, 4, 4, 5, 6, 6, 7, 8), Obj: obj}
	if o.Kind == op.Wait {
		o.Arg = n.one(0, 1, 2, 5, 5, 5, 30)
	}
	return o
}

// watch looks at a machine step by step.
type watch struct {
	n     numbers
	m     *core.Machine
	progs [][]api.Op
	// numbers are of each thread how many of its operations returned, by so many entries
	// of the log.
	numbers []int
	entries int
	// stuck has of each thread that was stuck once how many had returned then.
	stuck map[int]int
	// awake are those who are awake, as they were interrupted while they were stuck.
	awake []int
	seen  map[string]int
}

// move does a drawn next thing with the machine, and tells what that was.
func (w *watch) move() string {
	may := w.m.Runnable()
	switch k := w.n.below(30); {
	case k == 0:
		w.m.Deflate()
		return "a Deflate"
	case k < 4 || len(may) == 0:
		w.m.Tick(int64(w.n.one(0, 1, 1, 2, 50)))
		return "a Tick"
	case k == 4:
		who := w.n.below(10) - 1
		return fmt.Sprint("a Pick of ", who, ", ", w.m.Pick(who))
	}
	who := w.n.one(may...)
	return fmt.Sprint("a Pick of ", who, ", ", w.m.Pick(who))
}

// read reads what is new in the log: which operations returned, and who of the stuck ones
// was interrupted.
func (w *watch) read() {
	if w.m.Ghost().Len() == w.entries {
		return
	}
	log := w.m.Log()
	for _, e := range log[w.entries:] {
		switch {
		case e.Kind == ghost.Return:
			w.numbers[e.Thread]++
		case e.Event.Kind == model.Interrupt:
			if _, is := w.stuck[e.Event.Arg]; is && !slices.Contains(w.awake, e.Event.Arg) {
				w.awake = append(w.awake, e.Event.Arg)
				w.seen["interrupted"]++
			}
		}
	}
	w.entries = len(log)
}

// step does a move, and tells if the graph is not what it should be behind it, or one that
// was stuck is so no more, but that somebody is awake, as it was interrupted.
func (w *watch) step(t *testing.T) {
	t.Helper()
	what := w.move()
	w.read()
	w.awake = slices.DeleteFunc(w.awake, w.m.Asleep)
	g, stuck := agrees(t, w.m, w.progs, w.numbers)
	for thread, was := range w.stuck {
		if w.numbers[thread] != was || w.m.Ended(thread) {
			t.Fatalf("%d was stuck, and is at its operation %d, not %d, behind %s; of %v:\n%+v", thread, w.numbers[thread], was, what, w.progs, w.m.Log())
		}
		if len(w.awake) == 0 && !slices.Contains(stuck, thread) {
			t.Fatalf("%d was stuck, and is no more, behind %s; of %v:\n%+v", thread, what, w.progs, w.m.Log())
		}
	}
	for _, thread := range stuck {
		if _, was := w.stuck[thread]; !was {
			w.stuck[thread] = w.numbers[thread]
			w.count(g, thread)
		}
	}
}

// count counts what threads are stuck.
func (w *watch) count(g wfg.Graph, thread int) {
	if w.progs[thread][w.numbers[thread]].Kind == op.Wait {
		w.seen["in a Wait"]++
	} else {
		w.seen["in an Enter"]++
	}
	if reach := g.Reach(thread); slices.Contains(reach, thread) {
		w.seen[fmt.Sprint("ring of ", len(reach))]++
	} else {
		w.seen["behind a ring"]++
	}
}

// drawn watches drawn machines, whose programs interrupt or not, and tells what was seen.
func drawn(t *testing.T, seed int, interrupts bool) map[string]int {
	w := &watch{n: numbers(seed), seen: map[string]int{}}
	for range 300 {
		c := w.n.config()
		w.progs, w.stuck, w.awake = w.n.programs(c, interrupts), map[int]int{}, nil
		w.numbers, w.entries = make([]int, c.Threads), 0
		var err api.Errno
		if w.m, err = core.New(c, w.progs); err != api.OK {
			t.Fatalf("New of %+v, %v is %d", c, w.progs, err)
		}
		agrees(t, w.m, w.progs, w.numbers)
		for range w.n.one(50, 200, 600, 1000) {
			w.step(t)
		}
		if len(w.stuck) > 0 {
			w.seen["machines"]++
		}
	}
	return w.seen
}

// P26.2, P26.5: drawn machines, of which each step's graph is held against what is
// reckoned otherwise; who is stuck stays so, but that it is awake for some steps as it is
// interrupted, and none of its operations returns.
func TestDrawnMachines(t *testing.T) {
	for seed := range 8 {
		t.Run(fmt.Sprint(seed), func(t *testing.T) {
			t.Parallel()
			seen := drawn(t, seed, seed%2 == 0)
			wanted := []string{"machines", "in an Enter", "in a Wait", "ring of 2", "ring of 3", "behind a ring"}
			if seed%2 == 0 {
				wanted = append(wanted, "interrupted")
			} else if seen["interrupted"] > 0 {
				t.Errorf("somebody is interrupted: %v", seen)
			}
			for _, what := range wanted {
				if seen[what] < 5 {
					t.Errorf("%s is not much: %v", what, seen)
				}
			}
			t.Logf("%v", seen)
		})
	}
}

// P26.5: two that are stuck, whatever all others do: all orders of steps up to some length
// of a small machine.
func TestStuckInAllOrders(t *testing.T) {
	texts := []string{"enter 0; enter 1", "enter 1; enter 0", "interrupt 0; enter 0", "hash 1; notify 1; interrupt 1"}
	begin := func() *core.Machine {
		m := made(t, small(4, 2), texts...)
		does(t, m, "0<0 1<0 0! 1!")
		shows(t, m, "their beginning", "0>1 1>0", "0 1")
		return m
	}
	var orders [][]int
	for i := range 4 * 4 * 4 * 4 * 4 * 4 {
		orders = append(orders, []int{i % 4, i / 4 % 4, i / 16 % 4, i / 64 % 4, i / 256 % 4, i / 1024})
	}
	for _, order := range orders {
		m := begin()
		for _, who := range order {
			m.Pick(who)
			m.Tick(1)
			stuck := wfg.Stuck(m)
			if m.Asleep(0) && m.Asleep(1) && !(slices.Contains(stuck, 0) && slices.Contains(stuck, 1)) {
				t.Fatalf("%v: %v are stuck", order, stuck)
			}
		}
		all(m)
		if returns(m, 0) != 1 || returns(m, 1) != 1 {
			t.Fatalf("%v: their operations returned", order)
		}
		shows(t, m, fmt.Sprint(order), "0>1 1>0 2>0", "0 1 2")
	}
}
