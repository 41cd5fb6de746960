package core

import (
	"slices"

	"futtock/api"
	"futtock/op"
	"futtock/record"
	"futtock/safe"
)

// thread is one that does its program.
type thread struct {
	me      int
	prog    []api.Op
	records *record.Stack
	at      place
	// number is that of the operation that it does, or does next.
	number int

	// What it read, and goes by at its next steps: the object's header; the word of
	// another cell that it is to turn; what it is to put in a header's place.
	header, word, put uint64
	// The slot that the header told, or that it took, and that one's generation.
	slot int
	gen  uint32
	// How often it looked again at a lock word that another one owns.
	spins int
	// Those whom it drained, as far as it went along them: the last one first.
	chain []int

	// Whom a Notify or an All woke last, and how many it woke.
	last, woke int
	// Of a Wait: how often it owned the object, whether its alarm was due, and why
	// it left by itself (OK: it did not).
	count int
	late  bool
	why   api.Errno

	// What its operation is to tell.
	value int
	err   api.Errno
}

// newThread is a thread at its beginning.
func newThread(me int, prog []api.Op, c api.Config) thread {
	// So many places May lets there be.
	records, _ := record.New(c.Count * c.Objects)
	return thread{me: me, prog: slices.Clone(prog), records: records}
}

// op is the operation that it does, if its program is not over.
func (th *thread) op() api.Op {
	return th.prog[th.number]
}

// over tells whether its program is.
func (th *thread) over() bool {
	return th.number == len(th.prog)
}

// owned is how often it owns its operation's object.
func (th *thread) owned() int {
	return th.records.Count(th.op().Obj)
}

// enters tells whether it is to own its object: it enters, or it left a Wait by
// itself.
func (th *thread) enters() bool {
	switch th.op().Kind {
	case op.Enter, op.Try:
		return true
	}
	return th.left()
}

// left tells whether it left a Wait by itself.
func (th *thread) left() bool {
	return th.why != api.OK
}

// waits tells whether its operation is a Wait.
func (th *thread) waits() bool {
	return th.op().Kind == op.Wait
}

// isForOwner tells whether just who owns its object may do its operation; who left
// a Wait by itself is to own it anew.
func (th *thread) isForOwner() bool {
	switch th.op().Kind {
	case op.Exit, op.Notify, op.All:
		return true
	case op.Wait:
		return !th.left()
	}
	return false
}

// begin lets it begin its operation, ahead of which nothing is known.
func (th *thread) begin() {
	th.last, th.woke = nobody, 0
	th.why = api.OK
	th.beginAnew()
}

// beginAnew lets it look at the header, as if it had not looked yet.
func (th *thread) beginAnew() {
	th.spins = 0
	th.at = atHeader
}

// stateOf is the state in which a thread is behind its step.
func (m *Machine) stateOf(th *thread) int {
	switch {
	case th.at == atEnd:
		return safe.Ended
	case m.permits.Asleep(th.me):
		return safe.Sleeps
	case th.at <= lastStand:
		return safe.Stands
	}
	return safe.Runs
}

// wake unparks a thread.
func (m *Machine) wake(t int) {
	woke, _ := m.permits.Unpark(t)
	m.woken(t, woke)
}

// woken lets a thread stand that was woken, if it was: it slept where it looks
// whether it was handed a monitor, or told.
func (m *Machine) woken(t int, woke bool) {
	if woke {
		m.meet.Put(t, safe.Stands)
	}
}
