package core

import (
	"futtock/api"
	"futtock/layout"
	"futtock/model"
	"futtock/op"
	"futtock/ring"
)

// wait lets a thread be one that waits, ahead of leaving the monitor.
func (m *Machine) wait(th *thread) {
	m.store(layout.State, th.me, ring.Waiting)
	th.count = th.owned()
	m.rings[th.slot], _ = m.rings[th.slot].Add(ring.Waiter{Thread: th.me, Count: th.count})
	th.late = false
	if after := th.op().Arg; after > 0 {
		m.clock.Set(th.me, int64(after))
	}
	th.at = atLeave
}

// lookIfTold looks whether one who waits was told.
func (m *Machine) lookIfTold(th *thread) {
	switch {
	case m.load(layout.State, th.me) != ring.Waiting:
		th.at = atHanded
	case m.permits.Flag(th.me) || th.late:
		th.at = atBreak
	default:
		th.at = atDoze
	}
}

// doze lets the thread fall asleep until it is told.
func (m *Machine) doze(th *thread) {
	m.permits.Park(th.me)
	th.at = atState
}

// breakOff lets one who waits leave by itself, if it was not told by then, and enter
// anew. It is in the ring still, till one who tells meets it there, or it owns the
// monitor again.
func (m *Machine) breakOff(th *thread) {
	state, why := uint64(ring.Late), api.ErrTime
	if m.permits.Flag(th.me) {
		state, why = ring.Broken, api.ErrIntr
	}
	if !m.swap(layout.State, th.me, ring.Waiting, state) {
		th.at = atHanded
		return
	}
	m.clock.Clear(th.me)
	m.commit(th, model.Leave, 0, why)
	th.why = why
	th.beginAnew()
}

// clear stores that the thread waits no more.
func (m *Machine) clear(th *thread) {
	m.store(layout.State, th.me, 0)
	th.at = atReturn
}

// outOfRing lets one who owns its object again be in the ring no more, if it left by
// itself and nobody met it there since. (If the object has no slot it is in none.)
func (m *Machine) outOfRing(th *thread) {
	if slot, ok := m.book.Slot(th.op().Obj); ok {
		_, m.rings[slot], _ = m.rings[slot].Remove(th.me)
	}
}

// tell tells the ring's first one, which goes out of the ring whether it could be
// told or had left by itself.
func (m *Machine) tell(th *thread) {
	m.checkSlot(th)
	// Of an empty ring the first one is none, and nobody goes out.
	w, _ := m.rings[th.slot].First()
	_, rest, ok := m.rings[th.slot].Remove(w.Thread)
	if !ok {
		m.tellNoMore(th)
		return
	}
	m.rings[th.slot] = rest
	if !m.swap(layout.State, w.Thread, ring.Waiting, ring.Told) {
		return
	}
	m.queues[th.slot], _ = m.queues[th.slot].Append(w.Thread)
	m.clock.Clear(w.Thread)
	m.commit(th, model.Wake, w.Thread, api.OK)
	th.last, th.woke = w.Thread, th.woke+1
	if th.op().Kind == op.Notify || rest.Len() == 0 {
		m.tellNoMore(th)
	}
}

// tellNoMore lets a Notify, or an All, end: it told all whom it was to tell.
func (m *Machine) tellNoMore(th *thread) {
	if th.op().Kind == op.Notify {
		m.finish(th, th.last, th.last, api.OK)
		return
	}
	m.finish(th, 0, th.woke, api.OK)
}
