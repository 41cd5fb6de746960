package core

import (
	"futtock/api"
	"futtock/layout"
	"futtock/lock"
	"futtock/plan"
	"futtock/uses"
	"futtock/word"
)

// takeSlot takes a slot for an inflation.
func (m *Machine) takeSlot(th *thread) {
	slot, gen, err := m.table.Take(th.me)
	if err != api.OK {
		th.at = atHeaderAgain
		return
	}
	th.slot, th.gen = slot, gen
	th.at = atZero
}

// makeZero puts the Thin header to 0; if it is another one by then, the slot is
// freed.
func (m *Machine) makeZero(th *thread) {
	if !m.swapHeader(th, 0) {
		m.freeSlot(th.me, th.slot)
		th.at = atHeader
		return
	}
	th.at = atSaved
}

// loadSaved loads the word that the owner saved.
func (m *Machine) loadSaved(th *thread) {
	th.word = m.memory.Load(layout.At(layout.Saved, plan.Owner(th.header), th.op().Obj))
	th.at = atDisp
}

// displace stores that as what the slot displaced.
func (m *Machine) displace(th *thread) {
	m.store(layout.Disp, th.slot, th.word)
	th.at = atLock
}

// storeLock stores the lock word with that owner.
func (m *Machine) storeLock(th *thread) {
	w, _ := lock.Make(plan.Owner(th.header), nobody)
	m.store(layout.Lock, th.slot, w)
	th.at = atFat
}

// makeFat stores the Fat header; from then on the slot is in use by its object, and
// the thread begins anew.
func (m *Machine) makeFat(th *thread) {
	o := th.op().Obj
	fat := word.Header{Kind: word.Fat, Slot: uint16(th.slot), Gen: th.gen}
	m.store(layout.Header, o, code(fat))
	m.book.Add(uses.Pair{Slot: th.slot, Obj: o, Thread: th.me})
	th.at = atHeader
}

// freeSlot frees a slot for all threads: else one could find no slot, as what is
// left is another thread's own.
func (m *Machine) freeSlot(t, slot int) {
	m.table.Free(t, slot)
	m.table.Flush(t)
}
