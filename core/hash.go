package core

import (
	"futtock/api"
	"futtock/layout"
	"futtock/word"
)

// tellHash lets a Hash tell that of a header.
func (m *Machine) tellHash(th *thread, h word.Header) {
	m.finish(th, int(h.Hash), int(h.Hash), api.OK)
}

// hashHeader puts the source's next hash in a Neutral header.
func (m *Machine) hashHeader(th *thread) {
	h := m.hashed(th.header)
	if !m.swapHeader(th, code(h)) {
		th.at = atHeader
		return
	}
	m.tellDrawn(th, h)
}

// lookAtDisp looks at what the slot displaced.
func (m *Machine) lookAtDisp(th *thread) {
	th.word = m.loadSlot(layout.Disp, th)
	if h := header(th.word); h.Hash != 0 {
		m.tellHash(th, h)
		return
	}
	th.at = atHashDisp
}

// hashDisp puts the source's next hash in that.
func (m *Machine) hashDisp(th *thread) {
	h := m.hashed(th.word)
	if !m.swapSlot(layout.Disp, th, code(h)) {
		th.at = atDispHash
		return
	}
	m.tellDrawn(th, h)
}

// hashed is the header of a Neutral word with the source's next hash.
func (m *Machine) hashed(w uint64) word.Header {
	h := header(w)
	h.Hash = m.hash
	return h
}

// tellDrawn lets a Hash tell the source's next one, which an object has now.
func (m *Machine) tellDrawn(th *thread, h word.Header) {
	m.hash = m.source.Hash()
	m.tellHash(th, h)
}
