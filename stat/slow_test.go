package stat_test

import (
	"slices"
	"testing"

	"futtock/api"
	"futtock/ghost"
	"futtock/model"
	"futtock/stat"
)

// of are the transitions of an object, in order.
func of(log []ghost.Entry, obj int) []model.Event {
	var l []model.Event
	for _, e := range log {
		if e.Kind == ghost.Commit && e.Event.Obj == obj {
			l = append(l, e.Event)
		}
	}
	return l
}

// isIn tells whether a transition is of one of some kinds, and tells an error.
func isIn(e model.Event, err api.Errno, kinds ...int) bool {
	return e.Err == err && slices.Contains(kinds, e.Kind)
}

// isBack tells whether one has the object again by it.
func isBack(e model.Event) bool {
	return isIn(e, api.OK, model.End) || isIn(e, api.ErrTime, model.End) || isIn(e, api.ErrIntr, model.End)
}

// owned is how often an object is owned behind its transitions: told from the last one
// back.
func owned(l []model.Event) int {
	if len(l) == 0 {
		return 0
	}
	last := len(l) - 1
	e, ahead := l[last], l[:last]
	switch {
	case isIn(e, api.OK, model.Enter, model.Try):
		return owned(ahead) + 1
	case isIn(e, api.OK, model.Exit):
		return max(0, owned(ahead)-1)
	case isIn(e, api.OK, model.Begin):
		return 0
	case isBack(e):
		for i := last - 1; i >= 0; i-- {
			if isIn(l[i], api.OK, model.Begin) && l[i].Thread == e.Thread {
				return max(1, owned(l[:i]))
			}
		}
		return 1
	}
	return owned(ahead)
}

// reckoned is a second reckoning of an object's counts, each by itself.
func reckoned(log []ghost.Entry, obj int) stat.Counts {
	l := of(log, obj)
	var was []int
	for i := range l {
		was = append(was, owned(l[:i]))
	}
	many := func(isSo func(was int, e model.Event) bool) int {
		n := 0
		for i, e := range l {
			if isSo(was[i], e) {
				n++
			}
		}
		return n
	}
	done := func(kinds ...int) int {
		return many(func(_ int, e model.Event) bool { return isIn(e, api.OK, kinds...) })
	}
	return stat.Counts{
		Owned: many(func(was int, e model.Event) bool { return was == 0 && isIn(e, api.OK, model.Enter, model.Try) }),
		Again: many(func(was int, e model.Event) bool { return was > 0 && isIn(e, api.OK, model.Enter, model.Try) }),
		Refused: many(func(_ int, e model.Event) bool {
			refused := e.Err == api.ErrOver || e.Err == api.ErrOut || e.Err == api.ErrBusy
			return refused && (e.Kind == model.Enter || e.Kind == model.Try)
		}),
		Free:    many(func(was int, e model.Event) bool { return was < 2 && isIn(e, api.OK, model.Exit) }),
		Kept:    many(func(was int, e model.Event) bool { return was > 1 && isIn(e, api.OK, model.Exit) }),
		Strange: many(func(_ int, e model.Event) bool { return e.Err == api.ErrState }),
		Waits:   done(model.Begin),
		Left: many(func(_ int, e model.Event) bool {
			return isIn(e, api.ErrTime, model.Leave) || isIn(e, api.ErrIntr, model.Leave)
		}),
		Back:   many(func(_ int, e model.Event) bool { return isBack(e) }),
		Woken:  done(model.Wake),
		Hashes: done(model.Hash),
	}
}

// added are counts, number by number.
func added(l ...stat.Counts) stat.Counts {
	var all stat.Counts
	for _, c := range l {
		sum, parts := parts(&all), parts(&c)
		for i := range sum {
			*sum[i] += *parts[i]
		}
	}
	return all
}

// parts are the numbers of counts.
func parts(c *stat.Counts) []*int {
	return []*int{&c.Owned, &c.Again, &c.Refused, &c.Free, &c.Kept, &c.Strange, &c.Waits, &c.Left, &c.Back, &c.Woken, &c.Hashes}
}

// objectsOf are those that a log's commits name, each once, rising.
func objectsOf(log []ghost.Entry) []int {
	var l []int
	for _, e := range log {
		if e.Kind == ghost.Commit {
			l = append(l, e.Event.Obj)
		}
	}
	slices.Sort(l)
	return slices.Compact(l)
}

// spanAt is the span of the operation that returns by the entry at a place: to the last
// one ahead of it that is a Call or a Return of its thread. 0 is none.
func spanAt(log []ghost.Entry, at int) int {
	if log[at].Kind != ghost.Return {
		return 0
	}
	for i := at - 1; i >= 0; i-- {
		if log[i].Thread != log[at].Thread {
			continue
		}
		switch log[i].Kind {
		case ghost.Call:
			return at - i + 1
		case ghost.Return:
			return 0
		}
	}
	return 0
}

// spansOf are those of a thread.
func spansOf(log []ghost.Entry, thread int) []int {
	var l []int
	for at, e := range log {
		if span := spanAt(log, at); e.Thread == thread && span > 0 {
			l = append(l, span)
		}
	}
	return l
}

// longestOf is the longest span of a thread from 0 to 255, told from the last one back.
func longestOf(log []ghost.Entry) (int, int) {
	thread, longest := -1, 0
	for at := len(log) - 1; at >= 0; at-- {
		e := log[at]
		if span := spanAt(log, at); 0 <= e.Thread && e.Thread <= 255 && span > 0 && span >= longest {
			thread, longest = e.Thread, span
		}
	}
	return thread, longest
}

// boxesOf are those of spans, box by box.
func boxesOf(spans []int) [16]int {
	var boxes [16]int
	from := 1
	for box := range boxes {
		for _, span := range spans {
			if span >= from && (span < 2*from || box == 15) {
				boxes[box]++
			}
		}
		from *= 2
	}
	return boxes
}

// countsHold tells if a log's counts are others than reckoned, of each object that it
// names, and of some more.
func countsHold(t testing.TB, log []ghost.Entry, more ...int) {
	t.Helper()
	was := slices.Clone(log)
	var l []stat.Counts
	for _, obj := range objectsOf(log) {
		want := reckoned(log, obj)
		if got := stat.Of(log, obj); got != want {
			t.Fatalf("Of %d is %+v, not %+v, of\n%s", obj, got, want, text(log))
		}
		l = append(l, want)
	}
	for _, obj := range more {
		want := reckoned(log, obj)
		if got := stat.Of(log, obj); got != want {
			t.Fatalf("Of %d is %+v, not %+v, of\n%s", obj, got, want, text(log))
		}
	}
	for range 2 {
		if got := stat.Total(log); got != added(l...) {
			t.Fatalf("Total is %+v, not %+v, of\n%s", got, added(l...), text(log))
		}
	}
	if !slices.Equal(was, log) {
		t.Fatalf("what was handed in is another one: of\n%s", text(was))
	}
}

// spansHold tells if the spans of some threads, their boxes, or the longest one are
// others than reckoned.
func spansHold(t testing.TB, log []ghost.Entry, threads ...int) {
	t.Helper()
	was := slices.Clone(log)
	for _, thread := range threads {
		want := spansOf(log, thread)
		got := stat.Spans(log, thread)
		if !slices.Equal(got, want) {
			t.Fatalf("Spans of %d are %v, not %v, of\n%s", thread, got, want, text(log))
		}
		if boxes := stat.Boxes(got...); boxes != boxesOf(want) || !slices.Equal(got, want) {
			t.Fatalf("Boxes of %v are %v", want, boxes)
		}
	}
	thread, longest := longestOf(log)
	for range 2 {
		if gotThread, got := stat.Longest(log); gotThread != thread || got != longest {
			t.Fatalf("Longest is %d, %d, not %d, %d, of\n%s", gotThread, got, thread, longest, text(log))
		}
	}
	if !slices.Equal(was, log) {
		t.Fatalf("what was handed in is another one: of\n%s", text(was))
	}
}
