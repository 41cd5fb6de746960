package ghost

import (
	"futtock/api"
	"futtock/model"
)

// The kinds of operations.
const (
	enter     = 1
	try       = 2
	exit      = 3
	wait      = 4
	notify    = 5
	all       = 6
	hash      = 7
	holds     = 8
	interrupt = 9
)

// How far a thread's operation is.
const (
	idle   = iota // there is none
	called        // it has no commit yet but Wakes
	waits         // its Begin was OK
	done          // it lacks but its Return
)

// nobody is whom one woke that woke none.
const nobody = -1

// doing is what a thread does: its operation, and how far that is.
type doing struct {
	api.Op
	// number is the operation's; if there is none, the next one's.
	number int
	stage  int
	// woke is how many it woke, last whom it woke last.
	woke, last int
	// value and err are what its Return has to tell, once it is done.
	value int
	err   api.Errno
}

// begin begins an operation.
func (d *doing) begin(o api.Op) {
	*d = doing{Op: o, number: d.number, stage: called, last: nobody}
}

// end lets the operation end.
func (d *doing) end() {
	*d = doing{number: d.number + 1}
}

// takes tells whether a transition may be the operation's next commit, if the model
// takes it. (That one who waits leaves once at most, and ends as it left, the model
// sees to.)
func (d *doing) takes(e model.Event) bool {
	if e.Obj != d.isOf() {
		return false
	}
	switch d.stage {
	case called:
		return d.takesFirst(e)
	case waits:
		return e.Kind == model.Leave || e.Kind == model.End
	}
	return false
}

// isOf is the object of the operation's commits: of an Interrupt 0, whatever object it
// was called with, as a thread is interrupted at no object.
func (d *doing) isOf() int {
	if d.Kind == interrupt {
		return 0
	}
	return d.Obj
}

// takesFirst tells so of one that has no commit yet but Wakes.
func (d *doing) takesFirst(e model.Event) bool {
	switch d.Kind {
	case enter:
		return e.Kind == model.Enter
	case try:
		return e.Kind == model.Try
	case exit:
		return e.Kind == model.Exit
	case wait:
		return e.Kind == model.Begin
	case notify:
		return e.Kind == model.Wake && d.woke == 0 || e.Kind == model.Notify && e.Arg == d.last
	case all:
		return e.Kind == model.Wake || e.Kind == model.All
	case hash:
		return e.Kind == model.Hash
	case holds:
		return e.Kind == model.Holds
	case interrupt:
		return e.Kind == model.Interrupt && e.Arg == d.Arg
	}
	return false
}

// goOn does a commit that the operation and the model took.
func (d *doing) goOn(e model.Event) {
	switch {
	case e.Kind == model.Wake:
		d.woke, d.last = d.woke+1, e.Arg
	case e.Kind == model.Begin && e.Err == api.OK:
		d.stage = waits
	case e.Kind != model.Leave:
		d.stage, d.value, d.err = done, d.tells(e), e.Err
	}
}

// tells is the number that the operation tells, by its last commit.
func (d *doing) tells(e model.Event) int {
	switch d.Kind {
	case notify, hash, holds:
		return e.Arg
	case all:
		return d.woke
	}
	return 0
}
