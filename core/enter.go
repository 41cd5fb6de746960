package core

import (
	"futtock/api"
	"futtock/klass"
	"futtock/layout"
	"futtock/lock"
	"futtock/model"
	"futtock/op"
	"futtock/word"
)

// lookAtProto looks at the class's prototype, behind a Biased header.
func (m *Machine) lookAtProto(th *thread) {
	proto := header(m.load(layout.Proto, m.classOf(th.op().Obj)))
	h := header(th.header)
	class := klass.Class{Biased: proto.Kind == word.Biased, Epoch: proto.Epoch}
	switch {
	case class.Valid(th.header) && th.isOwner(h):
		m.enter(th)
	case class.Biased && (h.Owner == 0 || !class.Valid(th.header)):
		h.Owner, h.Epoch = uint16(th.me+1), class.Epoch
		th.put = code(h)
		th.at = atBias
	default:
		m.askToRevoke(th)
	}
}

// bias puts the thread there as the one whom the header is biased to.
func (m *Machine) bias(th *thread) {
	if !m.swapHeader(th, th.put) {
		th.at = atHeader
		return
	}
	m.enter(th)
}

// save saves the word of a Neutral header.
func (m *Machine) save(th *thread) {
	o := th.op().Obj
	m.memory.Store(layout.At(layout.Saved, th.me, o), th.header)
	th.at = atThin
}

// makeThin puts a Thin header of the thread there. As layer 19 does, it tells as
// its record the object, by which the saved word stands.
func (m *Machine) makeThin(th *thread) {
	thin := word.Header{Kind: word.Thin, Owner: uint16(th.me + 1), Record: uint16(th.op().Obj)}
	if !m.swapHeader(th, code(thin)) {
		th.at = atHeader
		return
	}
	m.enter(th)
}

// lookAtLock looks at the lock word of a Fat one in order to enter.
func (m *Machine) lookAtLock(th *thread) {
	th.word = m.loadSlot(layout.Lock, th)
	switch {
	case lock.Free(th.word):
		th.at = atTake
	case lock.Owner(th.word) == th.me:
		m.enter(th)
	case th.op().Kind == op.Try:
		m.refuse(th, api.ErrBusy)
	case th.spins < m.config.Spin:
		th.spins++
	default:
		th.at = atNext
	}
}

// take takes a lock word that was free.
func (m *Machine) take(th *thread) {
	w, _ := lock.Take(th.word, th.me)
	if !m.swapSlot(layout.Lock, th, w) {
		th.at = atWord
		return
	}
	m.enter(th)
}

// link stores the lock word's head as the thread's next one.
func (m *Machine) link(th *thread) {
	m.store(layout.Next, th.me, uint64(lock.Head(th.word)+1))
	th.at = atPush
}

// push puts the thread there as the lock word's head.
func (m *Machine) push(th *thread) {
	w, _ := lock.Push(th.word, th.me)
	th.at = atWord
	if m.swapSlot(layout.Lock, th, w) {
		th.at = atHanded
	}
}

// lookIfHanded looks whether the lock word has the thread as its owner: then who
// handed it over saw to all else.
func (m *Machine) lookIfHanded(th *thread) {
	th.at = atSleep
	if lock.Owner(m.loadSlot(layout.Lock, th)) == th.me {
		th.at = th.behindOwning()
	}
}

// sleep lets the thread fall asleep until it is handed the monitor.
func (m *Machine) sleep(th *thread) {
	m.permits.Park(th.me)
	th.at = atHanded
}

// enter lets a thread own its object, or own it once more, if it may.
func (m *Machine) enter(th *thread) {
	if th.owned() == m.config.Count {
		m.refuse(th, api.ErrOver)
		return
	}
	m.own(th)
	th.at = th.behindOwning()
}

// own lets a thread own its object, wherever that thread is: one that waited has
// its records again.
func (m *Machine) own(th *thread) {
	o := th.op()
	if !th.waits() {
		th.records.Push(o.Obj, 0)
		m.commit(th, transition(o.Kind), 0, api.OK)
		th.value, th.err = 0, api.OK
		return
	}
	for range th.count {
		th.records.Push(o.Obj, 0)
	}
	m.commit(th, model.End, 0, th.why)
	th.value, th.err = 0, th.why
	if th.why == api.ErrIntr {
		m.permits.Take(th.me)
	}
	m.outOfRing(th)
}

// behindOwning is where a thread goes on that owns what it wanted.
func (th *thread) behindOwning() place {
	if th.waits() {
		return atClear
	}
	return atReturn
}
