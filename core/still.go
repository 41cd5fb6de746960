package core

import (
	"futtock/layout"
	"futtock/plan"
	"futtock/vmq"
)

// ask asks for a request, for which a thread waits, or nobody.
func (m *Machine) ask(r vmq.Request, t int) {
	m.asked.Ask(r, t)
	m.meet.Request()
}

// settle does what is asked for, if something is, and all stand still. Who waited
// for it goes on by itself then, as all do.
func (m *Machine) settle() {
	if !m.meet.Wanted() || !m.meet.Still() {
		return
	}
	for r, _, ok := m.asked.Next(); ok; r, _, ok = m.asked.Next() {
		if r.Kind == vmq.Revoke {
			m.revoke(r.Obj)
		} else {
			m.deflate()
		}
	}
	m.meet.Done()
}

// revoke revokes an object's bias, by its class's policy.
func (m *Machine) revoke(o int) {
	_, classes, changes, _ := plan.Revoke(m.objects(), m.classes, o, m.config.Rebias, m.config.Revoke)
	m.classes = classes
	m.layProtos()
	for _, c := range changes {
		m.store(layout.Header, c.Obj, c.Word)
		// A change to a Biased word has none.
		if c.Saved != 0 {
			m.memory.Store(layout.At(layout.Saved, c.Owner, c.Obj), c.Saved)
		}
	}
}

// objects are all objects as a revocation looks at them.
func (m *Machine) objects() []plan.Object {
	var all []plan.Object
	for o := range m.config.Objects {
		x := plan.Object{Word: m.Header(o), Class: m.classOf(o)}
		for t := range m.threads {
			x.Count = append(x.Count, m.Records(t, o))
		}
		all = append(all, x)
	}
	return all
}

// deflate makes each Fat header that is idle what it displaced.
func (m *Machine) deflate() {
	for _, p := range m.book.All() {
		if !m.idle(p.Slot) {
			continue
		}
		m.store(layout.Header, p.Obj, m.memory.Look(layout.At(layout.Disp, p.Slot, 0)))
		m.book.Drop(p.Slot)
		m.freeSlot(p.Thread, p.Slot)
	}
}

// idle tells whether nobody owns a slot's monitor, and nobody comes to, or waits.
func (m *Machine) idle(slot int) bool {
	w := m.memory.Look(layout.At(layout.Lock, slot, 0))
	return w == 0 && m.queues[slot].Len() == 0 && m.rings[slot].Len() == 0
}
