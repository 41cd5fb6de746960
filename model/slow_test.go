package model_test

import (
	"math"
	"slices"
	"strconv"
	"strings"
	"testing"

	"futtock/api"
	"futtock/model"
)

// place is what a thread is to an object: it owns it ('o'), waits at it ('w') or
// left it ('l'), or is nothing to it (0).
type place struct {
	what       byte
	count, why int8
}

// slow is what a model should be: a value, so that each transition answers
// another one, in which nothing stands but what each thread is to each object,
// the hashes and the flags.
type slow struct {
	threads, objects, most int
	at                     [8][8]place // by objects, by threads
	hash                   [8]int
	flag                   [8]bool
}

// told is a kind of transition, and the error that it tells.
type told struct {
	kind int
	err  api.Errno
}

// rows are all that the document's table has.
var rows = []told{
	{model.Enter, api.OK}, {model.Enter, api.ErrOver}, {model.Enter, api.ErrOut},
	{model.Try, api.OK}, {model.Try, api.ErrOver}, {model.Try, api.ErrBusy},
	{model.Exit, api.OK}, {model.Exit, api.ErrState},
	{model.Begin, api.ErrState}, {model.Begin, api.ErrIntr}, {model.Begin, api.OK}, {model.Begin, api.ErrOut},
	{model.Leave, api.ErrTime}, {model.Leave, api.ErrIntr},
	{model.End, api.OK}, {model.End, api.ErrTime}, {model.End, api.ErrIntr},
	{model.Wake, api.OK},
	{model.Notify, api.ErrState}, {model.Notify, api.OK},
	{model.All, api.ErrState}, {model.All, api.OK},
	{model.Hash, api.OK}, {model.Hash, api.ErrOut},
	{model.Holds, api.OK},
	{model.Interrupt, api.OK},
}

// who are the threads that are that to an object.
func (s slow) who(what byte, obj int) []int {
	var l []int
	for thread, p := range s.at[obj] {
		if p.what == what {
			l = append(l, thread)
		}
	}
	return l
}

// bound tells whether a thread waits at an object, or left it, and is to do
// something else than come back from there.
func (s slow) bound(e model.Event) bool {
	for obj := range s.at {
		what := s.at[obj][e.Thread].what
		if (what == 'w' || what == 'l') && (obj != e.Obj || e.Kind != model.Leave && e.Kind != model.End) {
			return true
		}
	}
	return false
}

// after is it behind a transition, and whether that may be done.
func (s slow) after(e model.Event) (slow, bool) {
	if e.Thread < 0 || e.Thread >= s.threads || e.Obj < 0 || e.Obj >= s.objects || s.bound(e) {
		return s, false
	}
	named := slices.Contains([]int{model.Wake, model.Notify, model.Hash, model.Holds, model.Interrupt}, e.Kind)
	u := s
	if !named && e.Arg != 0 || !u.did(e) {
		return s, false
	}
	return u, true
}

// did does a transition, if it may be done: what it answers else is worth
// nothing.
func (s *slow) did(e model.Event) bool {
	me := &s.at[e.Obj][e.Thread]
	was := *me
	mine := was.what == 'o'
	free := len(s.who('o', e.Obj)) == 0
	waiters := s.who('w', e.Obj)
	isThread := e.Arg >= 0 && e.Arg < s.threads
	switch (told{e.Kind, e.Err}) {
	case told{model.Enter, api.OK}, told{model.Try, api.OK}:
		*me = place{what: 'o', count: was.count + 1}
		return free || mine && int(was.count) < s.most
	case told{model.Enter, api.ErrOver}, told{model.Try, api.ErrOver}:
		return mine && int(was.count) == s.most
	case told{model.Enter, api.ErrOut}, told{model.Try, api.ErrBusy}:
		return !free && !mine
	case told{model.Exit, api.OK}:
		*me = place{what: 'o', count: was.count - 1}
		if was.count == 1 {
			*me = place{}
		}
		return mine
	case told{model.Exit, api.ErrState}, told{model.Begin, api.ErrState}, told{model.All, api.ErrState}:
		return !mine
	case told{model.Begin, api.ErrIntr}:
		had := s.flag[e.Thread]
		s.flag[e.Thread] = false
		return mine && had
	case told{model.Begin, api.OK}:
		me.what = 'w'
		return mine
	case told{model.Begin, api.ErrOut}:
		return mine
	case told{model.Leave, api.ErrTime}, told{model.Leave, api.ErrIntr}:
		me.what, me.why = 'l', int8(e.Err)
		return was.what == 'w' && (e.Err == api.ErrTime || s.flag[e.Thread])
	case told{model.End, api.OK}, told{model.End, api.ErrTime}, told{model.End, api.ErrIntr}:
		*me = place{what: 'o', count: was.count}
		s.flag[e.Thread] = s.flag[e.Thread] && e.Err != api.ErrIntr
		return free && was.what == 'l' && api.Errno(was.why) == e.Err
	case told{model.Wake, api.OK}:
		if mine && slices.Contains(waiters, e.Arg) {
			s.at[e.Obj][e.Arg].what = 'l'
			return true
		}
		return false
	case told{model.Notify, api.ErrState}:
		return !mine && e.Arg == -1
	case told{model.Notify, api.OK}:
		return mine && (isThread || e.Arg == -1 && len(waiters) == 0)
	case told{model.All, api.OK}:
		return mine && len(waiters) == 0
	case told{model.Hash, api.OK}:
		had := s.hash[e.Obj]
		s.hash[e.Obj] = e.Arg
		return e.Arg >= 1 && e.Arg <= math.MaxInt32 && (had == 0 || had == e.Arg)
	case told{model.Hash, api.ErrOut}:
		return !free && e.Arg == 0
	case told{model.Holds, api.OK}:
		return mine && e.Arg == 1 || !mine && e.Arg == 0
	case told{model.Interrupt, api.OK}:
		if isThread {
			s.flag[e.Arg] = true
		}
		return isThread
	}
	return false
}

// noNumbers are no threads and no objects, though some have the lowest bits of
// one.
func noNumbers(size int) []int {
	return []int{
		-1, -2, -size, size, size + 1, 8, 9, 16, 255, 256, 65536, 1 << 32, 1<<32 + 1, -1 << 32, math.MaxInt, math.MinInt, math.MinInt + 1,
	}
}

// shows tells of what a model should show and doesn't, asked twice.
func shows(t *testing.T, m *model.Model, s slow) {
	t.Helper()
	for range 2 {
		for obj := range s.objects {
			owner, count := -1, 0
			if l := s.who('o', obj); len(l) > 0 {
				owner, count = l[0], int(s.at[obj][l[0]].count)
			}
			if m.Owner(obj) != owner || m.Count(obj) != count {
				t.Fatalf("%d is owned by %d, %d times, not by %d, %d times", obj, m.Owner(obj), m.Count(obj), owner, count)
			}
			if l := m.Waiters(obj); !slices.Equal(l, s.who('w', obj)) {
				t.Fatalf("at %d wait %v, not %v", obj, l, s.who('w', obj))
			}
			if l := m.Left(obj); !slices.Equal(l, s.who('l', obj)) {
				t.Fatalf("%d was left by %v, not by %v", obj, l, s.who('l', obj))
			}
			if h := m.Hash(obj); h != s.hash[obj] {
				t.Fatalf("Hash(%d) is %d, not %d", obj, h, s.hash[obj])
			}
		}
		for thread := range s.threads {
			if m.Flag(thread) != s.flag[thread] {
				t.Fatalf("Flag(%d) is %v", thread, m.Flag(thread))
			}
		}
	}
}

// showsNothing tells of what a model has of an object, or a thread, that there is
// not.
func showsNothing(t *testing.T, m *model.Model, objs, threads []int) {
	t.Helper()
	for _, obj := range objs {
		if m.Owner(obj) != -1 || m.Count(obj) != 0 || len(m.Waiters(obj)) != 0 || len(m.Left(obj)) != 0 || m.Hash(obj) != 0 {
			t.Fatalf("of %d there is something: %d, %d, %v, %v, %d", obj, m.Owner(obj), m.Count(obj), m.Waiters(obj), m.Left(obj), m.Hash(obj))
		}
	}
	for _, thread := range threads {
		if m.Flag(thread) {
			t.Fatalf("%d was interrupted", thread)
		}
	}
}

// made is a model, and what it should be.
func made(t *testing.T, threads, objects, most int) (*model.Model, slow) {
	t.Helper()
	m, err := model.New(threads, objects, most)
	if m == nil || err != api.OK {
		t.Fatalf("New(%d, %d, %d) is %v, %d", threads, objects, most, m, err)
	}
	return m, slow{threads: threads, objects: objects, most: most}
}

// applied does a transition, and tells what it should be behind it; that it is so
// is for who calls.
func applied(t *testing.T, m *model.Model, s slow, e model.Event) (slow, bool) {
	t.Helper()
	u, ok := s.after(e)
	want := api.OK
	if !ok {
		want = api.ErrBroken
	}
	if err := m.Apply(e); err != want {
		t.Fatalf("Apply(%v) is %d, not %d", e, err, want)
	}
	return u, ok
}

// kindWords and errWords are as layer 28 tells them.
var (
	kindWords = strings.Fields("none enter try exit begin leave end wake notify all hash holds interrupt")
	errWords  = strings.Fields("ok arg nil form end many none there full state over out intr time busy broken")
)

// event is of a text: a thread, a kind's word, an object; and behind them an Arg
// other than 0, and an error's word other than ok.
func event(t *testing.T, text string) model.Event {
	t.Helper()
	parts := strings.Fields(text)
	number := func(part string) int {
		n, err := strconv.Atoi(part)
		if err != nil {
			t.Fatalf("%q has no number at %q", text, part)
		}
		return n
	}
	e := model.Event{Thread: number(parts[0]), Kind: slices.Index(kindWords, parts[1]), Obj: number(parts[2])}
	for _, part := range parts[3:] {
		if at := slices.Index(errWords, part); at >= 0 {
			e.Err = api.Errno(at)
		} else {
			e.Arg = number(part)
		}
	}
	if e.Kind < 1 {
		t.Fatalf("%q has no kind", text)
	}
	return e
}

// events are of texts with `; ` between.
func events(t *testing.T, text string) []model.Event {
	t.Helper()
	var l []model.Event
	for part := range strings.SplitSeq(text, ";") {
		if strings.TrimSpace(part) != "" {
			l = append(l, event(t, part))
		}
	}
	return l
}

// does does transitions all of which may be done.
func does(t *testing.T, m *model.Model, text string) {
	t.Helper()
	for _, e := range events(t, text) {
		if err := m.Apply(e); err != api.OK {
			t.Fatalf("%q: Apply(%v) is %d", text, e, err)
		}
	}
}

// behind is a model of so many threads and objects behind those transitions.
func behind(t *testing.T, threads, objects, most int, text string) *model.Model {
	t.Helper()
	m, _ := made(t, threads, objects, most)
	does(t, m, text)
	return m
}

// says is what a model shows of an object, and which threads it says were
// interrupted.
func says(m *model.Model, obj int) string {
	n := strconv.Itoa
	list := func(l []int) string {
		var parts []string
		for _, thread := range l {
			parts = append(parts, n(thread))
		}
		return strings.Join(parts, ",")
	}
	var flags []int
	for thread := range 8 {
		if m.Flag(thread) {
			flags = append(flags, thread)
		}
	}
	return n(m.Owner(obj)) + " x" + n(m.Count(obj)) + " w" + list(m.Waiters(obj)) + " l" + list(m.Left(obj)) + " h" + n(m.Hash(obj)) + " f" + list(flags)
}

// numbers are of no pattern, and the same ones each time.
type numbers uint64

func (n *numbers) below(end int) int {
	*n = *n*6364136223846793005 + 1442695040888963407
	return int(uint64(*n) >> 33 % uint64(end))
}

// some is a transition of no pattern, one in some of which may be done.
func (n *numbers) some(s slow) model.Event {
	row := rows[n.below(len(rows))]
	e := model.Event{Kind: row.kind, Err: row.err, Thread: n.below(s.threads), Obj: n.below(s.objects)}
	owner := s.who('o', e.Obj)
	if len(owner) > 0 && n.below(2) == 0 {
		e.Thread = owner[0]
	}
	switch e.Kind {
	case model.Wake, model.Interrupt:
		e.Arg = n.below(s.threads)
	case model.Notify:
		e.Arg = n.below(s.threads+1) - 1
	case model.Hash:
		e.Arg = n.below(4)
	case model.Holds:
		e.Arg = n.below(2)
	}
	if waiters := s.who('w', e.Obj); e.Kind == model.Wake && len(waiters) > 0 {
		e.Arg = waiters[n.below(len(waiters))]
	}
	if n.below(20) == 0 {
		e.Arg = n.below(12) - 2
	}
	if n.below(20) == 0 {
		e.Err = api.Errno(n.below(18) - 1)
	}
	return e
}
