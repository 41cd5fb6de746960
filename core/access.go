package core

import (
	"futtock/layout"
	"futtock/word"
)

// The accesses: each call of load, store, swap and of those of a slot is one.

// load loads the cell of what is of a kind that has just one number.
func (m *Machine) load(kind, i int) uint64 {
	return m.memory.Load(layout.At(kind, i, 0))
}

// store stores there.
func (m *Machine) store(kind, i int, w uint64) {
	m.memory.Store(layout.At(kind, i, 0), w)
}

// swap puts a word there, if an old one is there still: was it?
func (m *Machine) swap(kind, i int, old, w uint64) bool {
	_, ok := m.memory.CAS(layout.At(kind, i, 0), old, w)
	return ok
}

// swapHeader puts a word in the place of the header that a thread looked at.
func (m *Machine) swapHeader(th *thread, w uint64) bool {
	return m.swap(layout.Header, th.op().Obj, th.header, w)
}

// loadSlot loads a cell of the slot of which a thread knows.
func (m *Machine) loadSlot(kind int, th *thread) uint64 {
	m.checkSlot(th)
	return m.load(kind, th.slot)
}

// swapSlot puts a word in the place of what the thread loaded there.
func (m *Machine) swapSlot(kind int, th *thread, w uint64) bool {
	m.checkSlot(th)
	return m.swap(kind, th.slot, th.word, w)
}

// checkSlot looks whether the slot is that still of which the thread knows.
func (m *Machine) checkSlot(th *thread) {
	if !m.table.Check(th.slot, th.gen) {
		m.broken = true
	}
}

// header is what a word tells: the zero one, whose kind is none, if it is none.
func header(w uint64) word.Header {
	h, _ := word.Read(w)
	return h
}

// code is the word of a header that may be, as all that are made here may.
func code(h word.Header) uint64 {
	w, _ := word.Code(h)
	return w
}
