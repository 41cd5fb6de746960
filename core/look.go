package core

import (
	"futtock/api"
	"futtock/layout"
	"futtock/op"
	"futtock/vmq"
	"futtock/word"
)

// look lets a thread go by its object's header. Who meets one that is 0 stays where
// it is, and so looks again.
func (m *Machine) look(th *thread) {
	if err := m.refusal(th); err != api.OK {
		m.refuse(th, err)
		return
	}
	th.header = m.load(layout.Header, th.op().Obj)
	h := header(th.header)
	if h.Kind == word.Fat {
		th.slot, th.gen = int(h.Slot), h.Gen
	}
	switch kind := th.op().Kind; {
	case th.enters():
		m.lookToEnter(th, h)
	case kind == op.Exit:
		m.lookToExit(th, h)
	case kind == op.Wait:
		m.lookToWait(th, h)
	case kind == op.Hash:
		m.lookToHash(th, h)
	default:
		m.lookToTell(th, h)
	}
}

// refusal is the error by which an operation ends whatever the header is; of
// ErrIntr the flag is taken.
func (m *Machine) refusal(th *thread) api.Errno {
	switch {
	case !th.isForOwner():
		return api.OK
	case th.owned() == 0:
		return api.ErrState
	case th.waits() && m.permits.Take(th.me):
		return api.ErrIntr
	}
	return api.OK
}

// lookToEnter goes by a header to own its object.
func (m *Machine) lookToEnter(th *thread, h word.Header) {
	switch {
	case h.Kind == word.Biased:
		th.at = atProto
	case h.Kind == word.Neutral:
		th.at = atSave
	case h.Kind == word.Fat:
		th.at = atWord
	case h.Kind == word.Inflating:
	case th.isOwner(h):
		m.enter(th)
	case th.op().Kind == op.Try:
		m.refuse(th, api.ErrBusy)
	default:
		th.at = atSlot
	}
}

// lookToExit goes by a header to own its object once less: the last time the header
// is turned, but if it is Biased.
func (m *Machine) lookToExit(th *thread, h word.Header) {
	switch {
	case h.Kind == word.Inflating:
	case h.Kind == word.Biased || th.owned() > 1:
		m.exit(th)
	case h.Kind == word.Thin:
		th.at = atUnsave
	case h.Kind == word.Fat:
		th.at = atLeave
	}
}

// lookToWait goes by a header to wait.
func (m *Machine) lookToWait(th *thread, h word.Header) {
	switch h.Kind {
	case word.Biased:
		m.askToRevoke(th)
	case word.Thin:
		th.at = atSlot
	case word.Fat:
		th.at = atWait
	}
}

// lookToHash goes by a header to tell its object's hash.
func (m *Machine) lookToHash(th *thread, h word.Header) {
	switch {
	case h.Kind == word.Biased:
		m.askToRevoke(th)
	case h.Kind == word.Thin:
		th.at = atSlot
	case h.Kind == word.Fat:
		th.at = atDispHash
	case h.Kind == word.Neutral && h.Hash == 0:
		th.at = atHash
	case h.Kind == word.Neutral:
		m.tellHash(th, h)
	}
}

// lookToTell goes by a header to tell who waits: where it is not Fat nobody does.
func (m *Machine) lookToTell(th *thread, h word.Header) {
	switch h.Kind {
	case word.Fat:
		th.at = atTell
	case word.Biased, word.Thin:
		m.tellNoMore(th)
	}
}

// lookAgain looks at a header once more, as there was no slot.
func (m *Machine) lookAgain(th *thread) {
	th.at = atHeader
	h := header(m.load(layout.Header, th.op().Obj))
	// One that left a Wait has to own its object again, so it is never told ErrOut.
	if h.Kind == word.Thin && !th.left() {
		m.refuse(th, api.ErrOut)
	}
}

// askToRevoke asks for a revocation of the object's bias, behind which the thread
// begins anew.
func (m *Machine) askToRevoke(th *thread) {
	m.ask(vmq.Request{Kind: vmq.Revoke, Obj: th.op().Obj}, th.me)
	th.at = atHeader
}

// isOwner tells whether a header has the thread as its owner.
func (th *thread) isOwner(h word.Header) bool {
	return int(h.Owner) == th.me+1
}
