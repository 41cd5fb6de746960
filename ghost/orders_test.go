package ghost_test

import (
	"slices"
	"testing"

	"futtock/api"
	"futtock/ghost"
	"futtock/model"
)

// numbers are of no pattern, and the same ones each time.
type numbers uint64

func (n *numbers) below(end int) int {
	*n = *n*6364136223846793005 + 1442695040888963407
	return int(uint64(*n) >> 33 % uint64(end))
}

// some is an entry of no pattern, one in some of which is right behind those.
func (n *numbers) some(w world, ahead []ghost.Entry) ghost.Entry {
	thread := n.below(w.threads)
	m := w.behind(ahead)
	if owner := m.Owner(0); owner >= 0 && n.below(3) == 0 {
		thread = owner
	}
	e := ghost.Entry{Kind: ghost.Call, Thread: thread}
	parts := operations(ahead, thread)
	if len(parts) == 0 || parts[len(parts)-1][len(parts[len(parts)-1])-1].Kind == ghost.Return {
		e.Number, e.Op = len(parts), n.op(w, m.Owner(0) == thread)
	} else if part := parts[len(parts)-1]; len(part) > 1 && n.below(2) == 0 {
		e.Kind, e.Number = ghost.Return, part[0].Number
		e.Value, e.Err = told(part[0].Op, part[1:])
	} else {
		e.Kind, e.Event = ghost.Commit, n.event(w, m, thread, part)
	}
	if n.below(6) == 0 {
		others := turned(e)
		e = others[n.below(len(others))]
	}
	return e
}

// op is an operation of no pattern, often one by which threads come to wait and to be
// woken: of one who owns the object 0 another one than of one who does not.
func (n *numbers) op(w world, owns bool) api.Op {
	o := api.Op{Kind: n.below(9) + 1, Obj: n.below(w.objects)}
	switch {
	case n.below(2) == 0:
	case owns:
		o = api.Op{Kind: []int{exit, wait, wait, notify, all}[n.below(5)]}
	default:
		o = api.Op{Kind: enter}
	}
	switch o.Kind {
	case wait:
		o.Arg = n.below(3)
	case interrupt:
		o.Arg = n.below(w.threads)
	}
	return o
}

// event is a transition of no pattern of an operation of which those are the entries
// so far.
func (n *numbers) event(w world, m *model.Model, thread int, part []ghost.Entry) model.Event {
	o := part[0].Op
	kinds := map[int][]int{
		enter: {model.Enter}, try: {model.Try}, exit: {model.Exit}, wait: {model.Begin, model.Begin, model.Begin, model.Begin, model.Leave, model.End, model.End, model.End},
		notify: {model.Wake, model.Notify}, all: {model.Wake, model.Wake, model.All}, hash: {model.Hash}, holds: {model.Holds}, interrupt: {model.Interrupt},
	}[o.Kind]
	errs := map[int][]api.Errno{
		model.Enter: {api.OK, api.ErrOver, api.ErrOut}, model.Try: {api.OK, api.ErrOver, api.ErrBusy}, model.Exit: {api.OK, api.ErrState},
		model.Begin: {api.OK, api.ErrState, api.ErrIntr, api.OK, api.OK, api.ErrOut}, model.Leave: {api.ErrTime, api.ErrIntr}, model.End: {api.OK, api.ErrTime, api.ErrIntr},
		model.Wake: {api.OK}, model.Notify: {api.OK, api.ErrState}, model.All: {api.OK, api.ErrState},
		model.Hash: {api.OK, api.ErrOut}, model.Holds: {api.OK}, model.Interrupt: {api.OK},
	}
	e := model.Event{Kind: kinds[n.below(len(kinds))], Thread: thread, Obj: o.Obj}
	if o.Kind == interrupt && n.below(4) > 0 {
		e.Obj = 0
	}
	e.Err = errs[e.Kind][n.below(len(errs[e.Kind]))]
	switch e.Kind {
	case model.Wake:
		those := append(m.Waiters(o.Obj), n.below(w.threads))
		e.Arg = those[n.below(len(those))]
	case model.Notify:
		e.Arg = append(woken(part[1:]), -1)[0]
		if n.below(4) == 0 {
			e.Arg = n.below(w.threads+1) - 1
		}
	case model.Hash:
		if e.Err == api.OK {
			e.Arg = n.below(3) + 1
		}
	case model.Holds:
		e.Arg = n.below(2)
	case model.Interrupt:
		e.Arg = o.Arg
	}
	return e
}

// walk adds entries of no pattern to logs, and calls back with each log as it was and
// is.
func walk(t *testing.T, seed numbers, w world, call func(log *ghost.Log, l []ghost.Entry, e ghost.Entry, ok bool)) {
	t.Helper()
	for range 16 {
		log := w.made(t)
		var l []ghost.Entry
		for range 300 {
			e := seed.some(w, l)
			longer, ok := w.added(t, log, l, e)
			l = longer
			call(log, l, e, ok)
		}
	}
}

// worlds are such as logs of no pattern are made of.
var worlds = []world{{1, 1, 1}, {2, 1, 1}, {2, 1, 2}, {3, 1, 2}, {3, 2, 2}, {8, 1, 60}, {8, 8, 60}, {4, 3, 3}}

// outcome is a kind of operation, with what it told.
type outcome struct {
	kind, value int
	err         api.Errno
}

// outcomes are all kinds of what operations tell, but for hashes and threads.
var outcomes = []outcome{
	{enter, 0, api.OK}, {enter, 0, api.ErrOver}, {enter, 0, api.ErrOut},
	{try, 0, api.OK}, {try, 0, api.ErrOver}, {try, 0, api.ErrBusy},
	{exit, 0, api.OK}, {exit, 0, api.ErrState},
	{wait, 0, api.OK}, {wait, 0, api.ErrState}, {wait, 0, api.ErrIntr}, {wait, 0, api.ErrTime}, {wait, 0, api.ErrOut},
	{notify, 0, api.OK}, {notify, -1, api.OK}, {notify, -1, api.ErrState},
	{all, 0, api.OK}, {all, 1, api.OK}, {all, 2, api.OK}, {all, 0, api.ErrState},
	{hash, 1, api.OK}, {hash, 0, api.ErrOut},
	{holds, 0, api.OK}, {holds, 1, api.OK},
	{interrupt, 0, api.OK},
}

// outcomeOf is the kind of what an operation told.
func outcomeOf(o api.Op, value int, err api.Errno) outcome {
	switch o.Kind {
	case notify:
		value = min(value, 0)
	case all:
		value = min(value, 2)
	case hash:
		value = min(value, 1)
	}
	return outcome{o.Kind, value, err}
}

// P15.1, P15.2: entries of no pattern, of several threads and objects, those that are
// refused too, with all that there is asked behind some.
func TestAllOrders(t *testing.T) {
	t.Parallel()
	met := map[outcome]int{}
	for i, w := range worlds {
		since := 0
		walk(t, numbers(i+44), w, func(log *ghost.Log, l []ghost.Entry, e ghost.Entry, ok bool) {
			if since++; since%7 == 0 || !ok && since%3 == 0 {
				w.shows(t, log, l)
			}
			if ok && e.Kind == ghost.Return {
				parts := operations(l, e.Thread)
				met[outcomeOf(parts[len(parts)-1][0].Op, e.Value, e.Err)]++
			}
		})
	}
	for _, o := range outcomes {
		if met[o] < 5 {
			t.Errorf("%v was told %d times: too few to tell", o, met[o])
		}
	}
	if len(met) != len(outcomes) {
		t.Errorf("%d kinds were told, not %d", len(met), len(outcomes))
	}
}

// P15.3: each beginning of a log that is right is right, and so is what it tells.
func TestBeginningsAreRight(t *testing.T) {
	t.Parallel()
	for i, w := range worlds {
		walk(t, numbers(i+5), w, func(log *ghost.Log, l []ghost.Entry, _ ghost.Entry, ok bool) {
			if !ok || len(l)%50 != 0 {
				return
			}
			told := log.All()
			again := w.made(t)
			for k := range len(told) + 1 {
				if n, all := ghost.Right(w.threads, w.objects, w.most, told[:k]); n != k || !all {
					t.Fatalf("%v: Right of the first %d is %d, %v", w, k, n, all)
				}
				if k < len(told) && again.Add(told[k]) != api.OK {
					t.Fatalf("%v: the entry %d of a right log is refused", w, k)
				}
			}
			if !slices.Equal(again.All(), told) || !again.Model().Same(log.Model()) {
				t.Fatalf("%v: a log of the same entries is another one", w)
			}
		})
	}
}

// ends tells whether a transition is one that an operation of that kind tells of.
func ends(kind int, e model.Event) bool {
	switch kind {
	case wait:
		return e.Kind == model.End || e.Kind == model.Begin && e.Err != api.OK
	case enter:
		return e.Kind == model.Enter
	case try:
		return e.Kind == model.Try
	case exit:
		return e.Kind == model.Exit
	case notify:
		return e.Kind == model.Notify
	case all:
		return e.Kind == model.All
	case hash:
		return e.Kind == model.Hash
	case holds:
		return e.Kind == model.Holds
	}
	return e.Kind == model.Interrupt
}

// P15.4: who called and did not return calls no more.
func TestWhoCalledCallsNoMore(t *testing.T) {
	t.Parallel()
	tried := 0
	for i, w := range worlds {
		n := numbers(i + 91)
		walk(t, numbers(i+17), w, func(log *ghost.Log, l []ghost.Entry, _ ghost.Entry, _ bool) {
			thread := n.below(w.threads)
			if _, open := log.Open(thread); !open {
				return
			}
			tried++
			next := len(operations(l, thread))
			for number := next - 2; number <= next+1; number++ {
				e := ghost.Entry{Kind: ghost.Call, Thread: thread, Number: number, Op: n.op(w, false)}
				if err := log.Add(e); err != api.ErrBroken {
					t.Fatalf("behind %s Add of %s is %d", lines(l), line(e), err)
				}
			}
		})
	}
	if tried < 1000 {
		t.Errorf("%d had called: too few to tell", tried)
	}
}

// P15.4: each operation that returned has just one commit that it tells of, and that
// tells what it told.
func TestOneCommitTells(t *testing.T) {
	t.Parallel()
	looked := 0
	for i, w := range worlds {
		var last []ghost.Entry
		walk(t, numbers(i+23), w, func(log *ghost.Log, l []ghost.Entry, e ghost.Entry, ok bool) {
			last = l
			if !ok || e.Kind != ghost.Return {
				return
			}
			parts := operations(log.All(), e.Thread)
			part := parts[len(parts)-1]
			var those []model.Event
			for _, c := range part[1 : len(part)-1] {
				if ends(part[0].Op.Kind, c.Event) {
					those = append(those, c.Event)
				}
			}
			if len(those) != 1 || those[0].Err != e.Err || e.Number != part[0].Number {
				t.Fatalf("%s is told by %v", lines(part), those)
			}
			if k := part[0].Op.Kind; (k == hash || k == holds || k == notify) && those[0].Arg != e.Value {
				t.Fatalf("%s is told by %v", lines(part), those)
			}
			looked++
		})
		if n, ok := ghost.Right(w.threads, w.objects, w.most, last); n != len(last) || !ok {
			t.Fatalf("%v: Right is %d, %v", w, n, ok)
		}
	}
	if looked < 500 {
		t.Errorf("%d returned: too few to tell", looked)
	}
}
