package check_test

import (
	"fmt"
	"math"
	"slices"
	"testing"

	"futtock/api"
	"futtock/check"
	"futtock/core"
	"futtock/ghost"
	"futtock/model"
	"futtock/op"
)

// machine is a drawn one, whose threads have no more operations in all than there may
// be calls, none of them a wait, which is no call.
func (n *numbers) machine(t *testing.T) *core.Machine {
	t.Helper()
	rebias := n.one(1, 2, 3, 100)
	c := api.Config{
		Threads: n.one(1, 2, 3, 4, 5, 8),
		Objects: n.one(1, 1, 1, 2, 3, 8),
		Classes: n.one(1, 1, 2, 4),
		Slots:   n.one(1, 1, 2, 16),
		Spin:    n.one(0, 0, 1, 3),
		Count:   n.one(1, 2, 3, 60),
		Bias:    uint8(n.one(0, 0, 1, 255, 255)),
		Rebias:  rebias,
		Revoke:  min(100, rebias*n.one(1, 2, 100)),
		Seed:    uint64(n.below(1 << 20)),
	}
	progs := make([][]api.Op, c.Threads)
	for range n.one(3, 6, 9, 12, 12) {
		thread := n.below(c.Threads)
		o := api.Op{Kind: n.one(op.Enter, op.Enter, op.Enter, op.Try, op.Exit, op.Exit, op.Exit, op.Notify, op.All, op.Hash, op.Hash, op.Holds, op.Interrupt), Obj: n.below(c.Objects)}
		if o.Kind == op.Interrupt {
			o.Obj, o.Arg = 0, n.below(c.Threads)
		}
		progs[thread] = append(progs[thread], o)
	}
	m, err := core.New(c, progs)
	if err != api.OK {
		t.Fatalf("New of %+v, %v is %d", c, progs, err)
	}
	return m
}

// drift picks drawn threads, so often at most, and as long as any may go on.
func (n *numbers) drift(m *core.Machine, picks int) {
	for range picks {
		may := m.Runnable()
		if len(may) == 0 {
			return
		}
		m.Pick(may[n.below(len(may))])
		if n.below(40) == 0 {
			m.Deflate()
		}
	}
}

// transitionOf is what an operation's Return tells, as a transition.
func transitionOf(call, back ghost.Entry) model.Event {
	kinds := map[int]int{
		op.Enter: model.Enter, op.Try: model.Try, op.Exit: model.Exit, op.Notify: model.Notify, op.All: model.All,
		op.Hash: model.Hash, op.Holds: model.Holds, op.Interrupt: model.Interrupt,
	}
	e := model.Event{Kind: kinds[call.Op.Kind], Thread: call.Thread, Obj: call.Op.Obj, Arg: back.Value, Err: back.Err}
	if call.Op.Kind == op.Interrupt {
		e.Arg = call.Op.Arg
	}
	return e
}

// history are the calls of a log: of each operation that returned what its thread was
// told, between the places of its Call and its Return; of one that did not, but took
// effect, what its commit tells, as if it returned behind all. A Hash that found no slot
// is none.
func history(log []ghost.Entry) []check.Call {
	var l []check.Call
	for from, call := range log {
		if call.Kind != ghost.Call {
			continue
		}
		c := check.Call{From: from, To: math.MaxInt}
		for i, e := range log[from:] {
			switch {
			case e.Thread != call.Thread || c.To < math.MaxInt:
			case e.Kind == ghost.Commit:
				c.Event = e.Event
			case e.Kind == ghost.Return:
				c.Event, c.To = transitionOf(call, e), from+i
			}
		}
		if c.Event != (model.Event{}) && (c.Event.Kind != model.Hash || c.Event.Err == api.OK) {
			l = append(l, c)
		}
	}
	return l
}

// P21.4, P23.1: what a machine's threads were told between their Calls and their Returns
// can have been: at the end, and at some step on the way.
func TestMachines(t *testing.T) {
	n := numbers(19)
	met := map[row]int{}
	met12, turned := 0, 0
	for i := range 3000 {
		m := n.machine(t)
		c := m.Config()
		w := world{c.Threads, c.Objects, c.Count}
		n.drift(m, n.below(120))
		onTheWay := history(m.Log())
		n.drift(m, 5000)
		l := history(m.Log())
		if !can(t, w, onTheWay) || !can(t, w, l) || !can(t, w, n.shuffled(l)) || m.Broken() {
			t.Fatalf("%d, %+v: %s and %s cannot both have been:\n%s", i, c, texts(onTheWay), texts(l), logText(m))
		}
		_, order := told(t, w, l)
		if !isOrder(w, l, order) {
			t.Fatalf("%d, %+v: %v is no order of %s", i, c, order, texts(l))
		}
		for _, x := range l {
			met[row{x.Event.Kind, x.Event.Err}]++
		}
		if len(l) == 12 {
			met12++
		}
		if !slices.IsSorted(order) {
			turned++
		}
	}
	for _, r := range rows {
		if met[r] < 20 {
			t.Errorf("%v was told %d times: too few to tell", r, met[r])
		}
	}
	if met12 < 300 || turned < 100 {
		t.Errorf("twelve calls were there %d times, an order that does not rise %d times: too few to tell", met12, turned)
	}
}

// P23.1: of machines' calls that were turned in one thing Can tells what one tells that
// tries all orders.
func TestMachinesSpoilt(t *testing.T) {
	n := numbers(23)
	met := map[bool]int{}
	for range 4000 {
		m := n.machine(t)
		c := m.Config()
		w := world{c.Threads, c.Objects, c.Count}
		n.drift(m, 5000)
		l := history(m.Log())
		if len(l) == 0 || len(l) > 6 {
			continue
		}
		l = n.spoilt(w, l)
		want, orders := w.first(l)
		ok, order := told(t, w, l)
		if ok != (orders > 0) || !slices.Equal(order, want) {
			t.Fatalf("%+v: of %s Can is %v, Order %v, not %v", c, texts(l), ok, order, want)
		}
		met[ok]++
	}
	if met[true] < 200 || met[false] < 200 {
		t.Errorf("%v: too few to tell", met)
	}
}

// P23.2: a machine's commits, as they stand in its log, are taken all: waits, too.
func TestMachinesCommits(t *testing.T) {
	n := numbers(29)
	for range 300 {
		m := n.machine(t)
		c := m.Config()
		n.drift(m, 5000)
		var l []check.Call
		for _, e := range m.Log() {
			if e.Kind == ghost.Commit {
				l = append(l, check.Call{Event: e.Event})
			}
		}
		takes(t, world{c.Threads, c.Objects, c.Count}, l, len(l))
	}
	mine, _ := op.Parse("enter 0; wait 0 5; exit 0")
	other, _ := op.Parse("enter 0; notify 0; wait 0 2; exit 0")
	m, _ := core.New(api.Config{Threads: 2, Objects: 1, Classes: 1, Slots: 1, Count: 1, Rebias: 1, Revoke: 1}, [][]api.Op{mine, other})
	for range 10 {
		for m.Pick(0) || m.Pick(1) {
		}
		m.Tick(1)
	}
	var l []check.Call
	for _, e := range m.Log() {
		if e.Kind == ghost.Commit {
			l = append(l, check.Call{Event: e.Event})
		}
	}
	if len(l) != 11 {
		t.Fatalf("there are %d commits:\n%s", len(l), logText(m))
	}
	takes(t, world{2, 1, 1}, l, len(l))
}

// logText is a machine's log as a text.
func logText(m *core.Machine) string {
	text := ""
	for _, e := range m.Log() {
		text += fmt.Sprintf("%+v\n", e)
	}
	return text
}
