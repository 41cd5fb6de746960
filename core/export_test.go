package core

import (
	"fmt"
	"strings"
)

// Fingerprint has all that a machine goes by, but its log and its counts: two of one
// fingerprint go on alike. Times are told from now on.
func (m *Machine) Fingerprint() string {
	var b strings.Builder
	fmt.Fprint(&b, m.memory.All(), m.classes, m.hash, m.asked.All(), m.meet.Wanted(), m.table.InUse(), m.broken)
	for s := range m.config.Slots {
		gen, _ := m.table.Gen(s)
		fmt.Fprint(&b, gen, m.queues[s].All(), m.rings[s].All(), ";")
	}
	for t := range m.threads {
		th := m.threads[t]
		at, has := m.clock.At(t)
		if has {
			at -= m.clock.Now()
		}
		for i := range th.records.Len() {
			r, _ := th.records.Get(i)
			fmt.Fprint(&b, r)
		}
		fmt.Fprint(&b, m.permits.Asleep(t), m.permits.Permit(t), m.permits.Flag(t), m.meet.State(t), m.asked.Waits(t), at, has)
		th.forget()
		fmt.Fprint(&b, th, ";")
	}
	return b.String()
}

// forget lets go what a thread has of its past, and does not go by where it is.
func (th *thread) forget() {
	th.records, th.prog = nil, nil
	switch th.at {
	case atCall, atEnd:
		*th = thread{at: th.at, number: th.number}
	case atReturn:
		*th = thread{at: th.at, number: th.number, value: th.value, err: th.err}
	case atHeader, atHeaderAgain:
		th.header, th.word, th.put, th.slot, th.gen, th.value, th.err = 0, 0, 0, 0, 0, 0, 0
	case atState, atHanded, atSleep, atDoze:
		th.header, th.word, th.put = 0, 0, 0
	}
}

// At is where a thread is, as a number.
func (m *Machine) At(t int) int { return int(m.threads[t].at) }

// FreeSlot frees a slot that is in use, as nothing else here does: its generation is
// another one then.
func (m *Machine) FreeSlot(slot int) { m.table.Free(0, slot) }
