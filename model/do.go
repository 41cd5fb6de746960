package model

import "futtock/api"

// do does a transition that may be done.
func (m *Model) do(e Event) {
	switch {
	case e.Kind == Leave:
		m.leave(spot{e.Obj, e.Thread}, e.Err)
	case e.Kind == End:
		m.end(e)
	case e.Err == api.ErrIntr:
		m.flags[e.Thread] = false
	case e.Err == api.OK:
		m.turn(e)
	}
}

// turn does one that tells OK, and is no End.
func (m *Model) turn(e Event) {
	o := &m.objs[e.Obj]
	switch e.Kind {
	case Enter, Try:
		o.owner, o.count = e.Thread, o.count+1
	case Exit:
		o.exit()
	case Begin:
		m.waits[spot{e.Obj, e.Thread}] = o.count
		o.owner, o.count = nobody, 0
	case Wake:
		m.leave(spot{e.Obj, e.Arg}, api.OK)
	case Hash:
		o.hash = e.Arg
	case Interrupt:
		m.flags[e.Arg] = true
	}
}

// exit lets the owner own the object once less.
func (o *object) exit() {
	o.count--
	if o.count == 0 {
		o.owner = nobody
	}
}

// leave lets one who waits leave.
func (m *Model) leave(at spot, why api.Errno) {
	m.left[at] = leaver{count: m.waits[at], why: why}
	delete(m.waits, at)
}

// end lets one who left own the object again.
func (m *Model) end(e Event) {
	at := spot{e.Obj, e.Thread}
	o := &m.objs[e.Obj]
	o.owner, o.count = e.Thread, m.left[at].count
	delete(m.left, at)
	if e.Err == api.ErrIntr {
		m.flags[e.Thread] = false
	}
}
