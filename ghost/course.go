package ghost

import (
	"futtock/api"
	"futtock/model"
)

// course is where entries that are right lead to: what all threads do behind them,
// and the model.
type course struct {
	threads, objects int
	behind           *model.Model
	does             [api.MaxThreads]doing
}

// start is where all threads and the model begin.
func start(threads, objects, count int) (course, api.Errno) {
	m, err := model.New(threads, objects, count)
	if err != api.OK {
		return course{}, err
	}
	return course{threads: threads, objects: objects, behind: m}, api.OK
}

// take goes on by an entry, if that is right there.
func (c *course) take(e Entry) bool {
	if !c.hasThread(e.Thread) {
		return false
	}
	switch e.Kind {
	case Call:
		return c.call(e)
	case Commit:
		return c.commit(e)
	case Return:
		return c.comeBack(e)
	}
	return false
}

// call goes on by a Call, if that is right.
func (c *course) call(e Entry) bool {
	d := &c.does[e.Thread]
	next := Entry{Kind: Call, Thread: e.Thread, Number: d.number, Op: e.Op}
	if d.stage != idle || e != next || !c.may(e.Op) {
		return false
	}
	d.begin(e.Op)
	return true
}

// commit goes on by a Commit, if that is right. The model is asked last, as it
// is turned by what it takes.
func (c *course) commit(e Entry) bool {
	d := &c.does[e.Thread]
	next := Entry{Kind: Commit, Thread: e.Event.Thread, Event: e.Event}
	if e != next || !d.takes(e.Event) || c.behind.Apply(e.Event) != api.OK {
		return false
	}
	d.goOn(e.Event)
	return true
}

// comeBack goes on by a Return, if that is right.
func (c *course) comeBack(e Entry) bool {
	d := &c.does[e.Thread]
	next := Entry{Kind: Return, Thread: e.Thread, Number: d.number, Value: d.value, Err: d.err}
	if d.stage != done || e != next {
		return false
	}
	d.end()
	return true
}

// may tells whether an operation is one.
func (c *course) may(o api.Op) bool {
	if o.Obj < 0 || o.Obj >= c.objects {
		return false
	}
	switch o.Kind {
	case enter, try, exit, notify, all, hash, holds:
		return o.Arg == 0
	case wait:
		return o.Arg >= 0
	case interrupt:
		return c.hasThread(o.Arg)
	}
	return false
}

// hasThread tells whether there is such a thread.
func (c *course) hasThread(thread int) bool {
	return thread >= 0 && thread < c.threads
}
