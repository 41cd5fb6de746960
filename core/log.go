package core

import (
	"futtock/api"
	"futtock/ghost"
	"futtock/model"
	"futtock/op"
)

// call lets a thread begin its next operation.
func (m *Machine) call(th *thread) {
	if th.over() {
		th.at = atEnd
		return
	}
	o := th.op()
	m.note(ghost.Entry{Kind: ghost.Call, Thread: th.me, Number: th.number, Op: o})
	th.begin()
	switch o.Kind {
	case op.Holds:
		th.at = atHolds
	case op.Interrupt:
		th.at = atInterrupt
	}
}

// comeBack lets a thread return from its operation.
func (m *Machine) comeBack(th *thread) {
	m.note(ghost.Entry{Kind: ghost.Return, Thread: th.me, Number: th.number, Value: th.value, Err: th.err})
	th.number++
	th.at = atCall
	if th.over() {
		th.at = atEnd
	}
}

// commit notes a transition at a thread's object.
func (m *Machine) commit(th *thread, kind, arg int, err api.Errno) {
	e := model.Event{Kind: kind, Thread: th.me, Obj: th.op().Obj, Arg: arg, Err: err}
	m.note(ghost.Entry{Kind: ghost.Commit, Thread: th.me, Event: e})
}

// note adds an entry to the log.
func (m *Machine) note(e ghost.Entry) {
	if m.log.Add(e) != api.OK {
		m.broken = true
	}
}

// finish lets a thread commit its operation's own transition, with a number, and
// then tell another one.
func (m *Machine) finish(th *thread, arg, value int, err api.Errno) {
	m.commit(th, transition(th.op().Kind), arg, err)
	th.value, th.err = value, err
	th.at = atReturn
}

// refuse lets a thread's operation end with an error.
func (m *Machine) refuse(th *thread, err api.Errno) {
	none := 0
	if th.op().Kind == op.Notify {
		none = nobody
	}
	m.finish(th, none, none, err)
}

// transition is an operation's own one, by which it ends: of a Wait the one by
// which it ends that does not come to wait.
func transition(kind int) int {
	return [...]int{
		op.Enter:     model.Enter,
		op.Try:       model.Try,
		op.Exit:      model.Exit,
		op.Wait:      model.Begin,
		op.Notify:    model.Notify,
		op.All:       model.All,
		op.Hash:      model.Hash,
		op.Holds:     model.Holds,
		op.Interrupt: model.Interrupt,
	}[kind]
}
