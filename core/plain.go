package core

import "futtock/api"

// holds lets a thread tell whether it owns its object.
func (m *Machine) holds(th *thread) {
	is := min(th.owned(), 1)
	m.finish(th, is, is, api.OK)
}

// interrupt lets a thread interrupt another one, or itself.
func (m *Machine) interrupt(th *thread) {
	whom := th.op().Arg
	woke, _ := m.permits.Interrupt(whom)
	m.woken(whom, woke)
	m.finish(th, whom, 0, api.OK)
}
