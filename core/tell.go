package core

import (
	"slices"

	"futtock/api"
	"futtock/ghost"
	"futtock/klass"
	"futtock/layout"
	"futtock/ring"
	"futtock/uses"
)

// Log is what was done.
func (m *Machine) Log() []ghost.Entry {
	return m.Ghost().All()
}

// Ghost is the log itself.
func (m *Machine) Ghost() *ghost.Log {
	return m.parts().log
}

// Config is its configuration.
func (m *Machine) Config() api.Config {
	return m.parts().config
}

// Broken tells whether something happened that may not.
func (m *Machine) Broken() bool {
	return m.parts().broken
}

// Steps is how many steps there were.
func (m *Machine) Steps() int {
	return m.parts().steps
}

// Most is how many accesses a step made at most.
func (m *Machine) Most() int64 {
	return m.parts().most
}

// Word is a cell.
func (m *Machine) Word(a int) uint64 {
	return m.parts().memory.Look(a)
}

// Header is an object's header.
func (m *Machine) Header(o int) uint64 {
	return m.Word(layout.At(layout.Header, o, 0))
}

// Classes are its classes.
func (m *Machine) Classes() []klass.Class {
	return slices.Clone(m.parts().classes)
}

// Records is how many records a thread has of an object.
func (m *Machine) Records(t, o int) int {
	if !m.has(t) {
		return 0
	}
	return m.threads[t].records.Count(o)
}

// Ended tells whether a thread ended.
func (m *Machine) Ended(t int) bool {
	return m.has(t) && m.threads[t].at == atEnd
}

// Asleep tells whether one is asleep.
func (m *Machine) Asleep(t int) bool {
	return m.parts().permits.Asleep(t)
}

// Flag tells whether one was interrupted.
func (m *Machine) Flag(t int) bool {
	return m.parts().permits.Flag(t)
}

// Entry is who is to come next at a slot.
func (m *Machine) Entry(slot int) []int {
	if !m.hasSlot(slot) {
		return nil
	}
	return m.queues[slot].All()
}

// Ring is who waits at a slot.
func (m *Machine) Ring(slot int) []ring.Waiter {
	if !m.hasSlot(slot) {
		return nil
	}
	return m.rings[slot].All()
}

// Pairs are slots and their objects.
func (m *Machine) Pairs() []uses.Pair {
	return m.parts().book.All()
}

// Used are the slots that are in use. One that an inflation took is so from the step
// on at which its object's header is Fat.
func (m *Machine) Used() []int {
	var used []int
	for _, p := range m.Pairs() {
		used = append(used, p.Slot)
	}
	return used
}

// Left is how many slots are free: all that could be in use, and are not.
func (m *Machine) Left() int {
	p := m.parts()
	taken := len(p.table.InUse()) - p.book.Len()
	return p.table.Left() + taken
}

// Wanted tells whether something was asked for.
func (m *Machine) Wanted() bool {
	return m.parts().meet.Wanted()
}

// Rounds is how often all stood still.
func (m *Machine) Rounds() int {
	return m.parts().meet.Rounds()
}

// Now is the time.
func (m *Machine) Now() int64 {
	return m.parts().clock.Now()
}

// parts are the machine's own ones, not copies: of a nil machine, and of one that New
// did not give, there are none, and none of them tells anything.
func (m *Machine) parts() *Machine {
	if !m.made() {
		return &Machine{}
	}
	return m
}

// has tells whether there is such a thread.
func (m *Machine) has(t int) bool {
	return m.made() && t >= 0 && t < len(m.threads)
}

// hasSlot tells whether there is such a slot.
func (m *Machine) hasSlot(slot int) bool {
	return m.made() && slot >= 0 && slot < m.config.Slots
}
