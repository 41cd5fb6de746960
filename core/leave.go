package core

import (
	"futtock/api"
	"futtock/layout"
	"futtock/lock"
	"futtock/model"
)

// exit lets a thread own its object once less.
func (m *Machine) exit(th *thread) {
	th.records.Pop(th.op().Obj)
	m.finish(th, 0, 0, api.OK)
}

// unsave loads what the owner of a Thin header saved.
func (m *Machine) unsave(th *thread) {
	th.put = m.memory.Load(layout.At(layout.Saved, th.me, th.op().Obj))
	th.at = atBack
}

// putBack puts that back as the header.
func (m *Machine) putBack(th *thread) {
	if !m.swapHeader(th, th.put) {
		th.at = atHeader
		return
	}
	m.exit(th)
}

// lookToLeave looks at the lock word of a Fat one in order to leave it.
func (m *Machine) lookToLeave(th *thread) {
	th.word = m.loadSlot(layout.Lock, th)
	switch {
	case lock.Head(th.word) != nobody:
		th.at = atDrain
	case m.queues[th.slot].Len() > 0:
		th.at = atHand
	default:
		th.at = atRelease
	}
}

// drain takes the list of those who came last off the lock word.
func (m *Machine) drain(th *thread) {
	w, _ := lock.Drain(th.word, th.me)
	if !m.swapSlot(layout.Lock, th, w) {
		th.at = atLeave
		return
	}
	th.chain = []int{lock.Head(th.word)}
	th.at = atChain
}

// goAlong goes along that list, by one; behind its end all of it is in the queue.
func (m *Machine) goAlong(th *thread) {
	last := th.chain[len(th.chain)-1]
	if next := m.load(layout.Next, last); next != 0 {
		th.chain = append(th.chain, int(next)-1)
		return
	}
	m.queues[th.slot], _ = m.queues[th.slot].Drain(th.chain)
	th.chain = nil
	th.at = atLeave
}

// release releases the lock word, as nobody is in the queue.
func (m *Machine) release(th *thread) {
	w, _ := lock.Release(th.word, th.me)
	if !m.swapSlot(layout.Lock, th, w) {
		th.at = atLeave
		return
	}
	m.letGo(th)
}

// hand hands the lock word to the first one of the queue, which owns the object
// from this step on, and wakes it.
func (m *Machine) hand(th *thread) {
	first, rest, _ := m.queues[th.slot].Pop()
	w, _ := lock.Hand(th.word, th.me, first)
	if !m.swapSlot(layout.Lock, th, w) {
		th.at = atLeave
		return
	}
	m.queues[th.slot] = rest
	m.letGo(th)
	m.own(&m.threads[first])
	m.wake(first)
}

// letGo lets a thread own its object no more, that exits or comes to wait.
func (m *Machine) letGo(th *thread) {
	if !th.waits() {
		m.exit(th)
		return
	}
	for range th.count {
		th.records.Pop(th.op().Obj)
	}
	m.commit(th, model.Begin, 0, api.OK)
	th.at = atState
}
