package model

import "futtock/api"

// may tells whether a transition may be done whose thread and object are such as
// there are.
func (m *Model) may(e Event) bool {
	switch e.Kind {
	case Leave, End:
		return e.Arg == 0 && m.mayComeBack(e)
	}
	if m.away(e.Thread) {
		return false
	}
	switch e.Kind {
	case Enter, Try, Exit, Begin, All:
		return e.Arg == 0 && m.mayWithoutArg(e)
	}
	return m.mayWithArg(e)
}

// mayComeBack tells whether a Leave, or an End, may be.
func (m *Model) mayComeBack(e Event) bool {
	at := spot{e.Obj, e.Thread}
	if e.Kind == End {
		l, left := m.left[at]
		return left && l.why == e.Err && m.objs[e.Obj].owner == nobody
	}
	_, waits := m.waits[at]
	return waits && (e.Err == api.ErrTime || e.Err == api.ErrIntr && m.flags[e.Thread])
}

// mayWithoutArg tells whether a transition may be of the other kinds that have no
// Arg.
func (m *Model) mayWithoutArg(e Event) bool {
	owns := m.objs[e.Obj].owner == e.Thread
	switch e.Kind {
	case Enter:
		return m.mayEnter(e, api.ErrOut)
	case Try:
		return m.mayEnter(e, api.ErrBusy)
	case Exit:
		return refused(e, owns) || e.Err == api.OK && owns
	case Begin:
		return refused(e, owns) || owns && m.mayBegin(e)
	case All:
		return refused(e, owns) || e.Err == api.OK && owns && m.noneWaits(e.Obj)
	}
	return false
}

// mayWithArg tells whether a transition may be of the kinds that have an Arg.
func (m *Model) mayWithArg(e Event) bool {
	o := m.objs[e.Obj]
	owns := o.owner == e.Thread
	switch e.Kind {
	case Wake:
		_, waits := m.waits[spot{e.Obj, e.Arg}]
		return e.Err == api.OK && owns && waits
	case Notify:
		return refused(e, owns) && e.Arg == nobody || e.Err == api.OK && owns && m.mayTell(e)
	case Hash:
		return o.mayHash(e)
	case Holds:
		return e.Err == api.OK && (e.Arg == 1 && owns || e.Arg == 0 && !owns)
	case Interrupt:
		return e.Err == api.OK && m.hasThread(e.Arg)
	}
	return false
}

// refused tells whether a transition is rightly refused, since its thread does not
// own its object.
func refused(e Event, owns bool) bool {
	return e.Err == api.ErrState && !owns
}

// mayEnter tells whether an Enter, or a Try, may be, which tells an error of its
// own if another thread owns the object.
func (m *Model) mayEnter(e Event, others api.Errno) bool {
	o := m.objs[e.Obj]
	switch o.owner {
	case nobody:
		return e.Err == api.OK
	case e.Thread:
		return e.Err == api.OK && o.count < m.most || e.Err == api.ErrOver && o.count == m.most
	}
	return e.Err == others
}

// mayBegin tells whether a Begin by the owner may be. (One who was interrupted may
// wait all the same: it may have been so since it looked.)
func (m *Model) mayBegin(e Event) bool {
	return e.Err == api.OK || e.Err == api.ErrOut || e.Err == api.ErrIntr && m.flags[e.Thread]
}

// mayTell tells whether the owner's Notify may tell its Arg. Whether it woke that
// thread is not to be seen here: the log knows.
func (m *Model) mayTell(e Event) bool {
	return m.hasThread(e.Arg) || e.Arg == nobody && m.noneWaits(e.Obj)
}

// mayHash tells whether a Hash of the object may be.
func (o object) mayHash(e Event) bool {
	switch e.Err {
	case api.OK:
		return within(e.Arg, mostHash) && (o.hash == 0 || o.hash == e.Arg)
	case api.ErrOut:
		return e.Arg == 0 && o.owner != nobody
	}
	return false
}

// noneWaits tells whether nobody waits at an object.
func (m *Model) noneWaits(obj int) bool {
	return len(threadsAt(m.waits, obj)) == 0
}
