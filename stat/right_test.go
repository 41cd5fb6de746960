package stat_test

import (
	"slices"
	"testing"

	"futtock/api"
	"futtock/core"
	"futtock/ghost"
	"futtock/model"
	"futtock/op"
	"futtock/stat"
)

// world is what a right log is of.
type world struct{ threads, objects, count int }

// scribe writes a log that is right, of no pattern.
type scribe struct {
	*numbers
	world
	log *ghost.Log
	// number, last and woke are of each thread its operation's number, its last commit,
	// and how many it woke.
	number, woke [api.MaxThreads]int
	last         [api.MaxThreads]model.Event
}

// next adds an entry of a thread, if there is one that is right.
func (s *scribe) next(thread int) {
	o, open := s.log.Open(thread)
	if !open {
		s.woke[thread] = 0
		s.log.Add(ghost.Entry{Kind: ghost.Call, Thread: thread, Number: s.number[thread], Op: s.op(thread)})
		return
	}
	last := s.last[thread]
	for _, value := range []int{0, last.Arg, s.woke[thread]} {
		if s.log.Add(ghost.Entry{Kind: ghost.Return, Thread: thread, Number: s.number[thread], Value: value, Err: last.Err}) == api.OK {
			s.number[thread]++
			return
		}
	}
	may := s.events(o, thread)
	shuffle(s.numbers, may)
	for _, e := range may {
		if s.log.Add(ghost.Entry{Kind: ghost.Commit, Thread: thread, Event: e}) == api.OK {
			s.last[thread] = e
			if e.Kind == model.Wake {
				s.woke[thread]++
			}
			return
		}
	}
}

// op is an operation of no pattern; often of an object that the thread owns, by which
// threads come to wait and to be woken.
func (s *scribe) op(thread int) api.Op {
	o := api.Op{Kind: s.one(1, 1, 1, 1, 2, 2, 3, 3, 4, 5, 7, 8, 9), Obj: s.below(s.objects)}
	if m := s.log.Model(); m.Owner(o.Obj) == thread && s.below(3) > 0 {
		o.Kind = s.one(3, 3, 3, 4, 4, 5, 5, 6)
	}
	if o.Kind == op.Interrupt {
		o.Arg = s.below(s.threads)
	}
	return o
}

// events are what an operation may commit at some time.
func (s *scribe) events(o api.Op, thread int) []model.Event {
	var l []model.Event
	add := func(kind int, args []int, errs ...api.Errno) {
		for _, err := range errs {
			for _, arg := range args {
				l = append(l, model.Event{Kind: kind, Thread: thread, Obj: o.Obj, Arg: arg, Err: err})
			}
		}
	}
	none, threads := []int{0}, []int{-1, 0, 1, 2, 3, 4, 5, 6, 7}
	switch o.Kind {
	case op.Enter:
		add(model.Enter, none, api.OK, api.ErrOver, api.ErrOut)
	case op.Try:
		add(model.Try, none, api.OK, api.ErrOver, api.ErrBusy)
	case op.Exit:
		add(model.Exit, none, api.OK, api.ErrState)
	case op.Wait:
		add(model.Begin, none, api.OK, api.OK, api.OK, api.ErrState, api.ErrIntr, api.ErrOut)
		if s.below(8) == 0 {
			add(model.Leave, none, api.ErrTime, api.ErrIntr)
		}
		add(model.End, none, api.OK, api.ErrTime, api.ErrIntr)
	case op.Notify:
		add(model.Wake, threads, api.OK)
		add(model.Notify, threads, api.OK, api.ErrState)
	case op.All:
		add(model.Wake, threads, api.OK)
		add(model.All, none, api.OK, api.ErrState)
	case op.Hash:
		add(model.Hash, []int{0, 1, 2}, api.OK, api.ErrOut)
	case op.Holds:
		add(model.Holds, []int{0, 1}, api.OK)
	case op.Interrupt:
		o.Obj = 0
		add(model.Interrupt, []int{o.Arg}, api.OK)
	}
	return l
}

// byModel are an object's counts of a right log, by what the model has ahead of each
// commit, and behind it.
func byModel(t testing.TB, w world, log []ghost.Entry, obj int) stat.Counts {
	t.Helper()
	m, err := model.New(w.threads, w.objects, w.count)
	if err != api.OK {
		t.Fatalf("there is no model of %+v", w)
	}
	var c stat.Counts
	for _, x := range log {
		if x.Kind != ghost.Commit {
			continue
		}
		e, was := x.Event, m.Owner(obj)
		if err := m.Apply(e); err != api.OK {
			t.Fatalf("the model does not take %+v", e)
		}
		if e.Obj == obj {
			addTransition(&c, e, was, m.Owner(obj))
		}
	}
	return c
}

// addTransition counts one, by whom the object was owned by, and is.
func addTransition(c *stat.Counts, e model.Event, was, is int) {
	switch {
	case e.Err == api.ErrState:
		c.Strange++
	case e.Err == api.ErrOver, e.Err == api.ErrBusy, e.Err == api.ErrOut && e.Kind == model.Enter:
		c.Refused++
	case e.Kind == model.Leave:
		c.Left++
	case e.Kind == model.End:
		c.Back++
	case e.Err != api.OK:
	case e.Kind == model.Begin:
		c.Waits++
	case e.Kind == model.Wake:
		c.Woken++
	case e.Kind == model.Hash:
		c.Hashes++
	case e.Kind == model.Exit && is == -1:
		c.Free++
	case e.Kind == model.Exit:
		c.Kept++
	case was == -1 && is == e.Thread:
		c.Owned++
	case e.Kind == model.Enter, e.Kind == model.Try:
		c.Again++
	}
}

// P27.3: rightHolds tells if of a right log, at some beginning of it, an object's Owned and
// Back are not its Free, its Waits, and 1, if it is owned; or if its counts are not those
// that the model has.
func rightHolds(t testing.TB, w world, log []ghost.Entry, each int) {
	t.Helper()
	if n, ok := ghost.Right(w.threads, w.objects, w.count, log); !ok {
		t.Fatalf("just %d entries are right of\n%s", n, text(log))
	}
	m, _ := model.New(w.threads, w.objects, w.count)
	for i, e := range log {
		if e.Kind != ghost.Commit {
			continue
		}
		m.Apply(e.Event)
		if i%each != 0 && i < len(log)-3 {
			continue
		}
		for obj := range w.objects {
			c, owned := stat.Of(log[:i+1], obj), min(1, m.Owner(obj)+1)
			if c.Owned+c.Back != c.Free+c.Waits+owned {
				t.Fatalf("of %d the counts are %+v, its owner is %d, behind\n%s", obj, c, m.Owner(obj), text(log[:i+1]))
			}
		}
	}
	for obj := range w.objects {
		if got, want := stat.Of(log, obj), byModel(t, w, log, obj); got != want {
			t.Fatalf("of %d the counts are %+v, not %+v, of\n%s", obj, got, want, text(log))
		}
	}
}

// seen is what was met, of which there is to be enough.
type seen struct {
	all          stat.Counts
	owned, spans int
	boxes        [16]int
}

// add adds what a log comes to.
func (s *seen) add(log []ghost.Entry, w world) {
	s.all = stat.Add(s.all, stat.Total(log))
	for obj := range w.objects {
		c := stat.Of(log, obj)
		s.owned += c.Owned + c.Back - c.Free - c.Waits
	}
	for thread := range w.threads {
		for box, n := range stat.Boxes(stat.Spans(log, thread)...) {
			s.boxes[box] += n
			s.spans += n
		}
	}
}

// isEnough tells if it is not.
func (s *seen) isEnough(t *testing.T, each int) {
	t.Helper()
	for i, part := range parts(&s.all) {
		if *part < each {
			t.Errorf("the count %d is %d in all: too few to tell", i, *part)
		}
	}
	if s.owned < each || s.spans < each || min(s.boxes[1], s.boxes[2], s.boxes[3], s.boxes[4], s.boxes[5]) < each/10 {
		t.Errorf("it is not much: %+v", s)
	}
}

// P27.3, P27.4, P27.5: right logs of no pattern.
func TestDrawnRightLogs(t *testing.T) {
	n := numbers(273)
	var met seen
	for range 1000 {
		w := world{n.one(1, 2, 2, 3, 4, 8), n.one(1, 1, 2, 3, 8), n.one(1, 2, 3, 60)}
		log, err := ghost.New(w.threads, w.objects, w.count)
		if err != api.OK {
			t.Fatal(err)
		}
		s := scribe{numbers: &n, world: w, log: log}
		for range n.one(5, 50, 300, 600) {
			s.next(n.below(w.threads))
		}
		l := log.All()
		rightHolds(t, w, l, n.one(1, 3, 17))
		logHolds(t, &n, w, l)
		met.add(l, w)
	}
	met.isEnough(t, 200)
}

// logHolds tells if what a right log comes to is not what is reckoned otherwise.
func logHolds(t testing.TB, n *numbers, w world, log []ghost.Entry) {
	t.Helper()
	var objects, threads []int
	for obj := range w.objects {
		objects = append(objects, obj)
	}
	for thread := range w.threads {
		threads = append(threads, thread)
	}
	countsHold(t, log, append(objects, w.objects, -1)...)
	spansHold(t, log, append(threads, w.threads, -1)...)
	boxesHold(t, log, threads...)
	totalHolds(t, n, log)
	returned := 0
	for _, e := range log {
		if e.Kind == ghost.Return {
			returned++
		}
	}
	many := 0
	for thread := range w.threads {
		many += len(stat.Spans(log, thread))
	}
	if many != returned {
		t.Fatalf("%d spans of %d operations that returned, of\n%s", many, returned, text(log))
	}
}

// config is a drawn configuration; few objects and slots, so that threads meet.
func (n *numbers) config() api.Config {
	rebias := n.one(1, 1, 2, 3, 100)
	return api.Config{
		Threads: n.one(1, 2, 2, 3, 3, 4, 8),
		Objects: n.one(1, 1, 2, 3, 8),
		Classes: n.one(1, 1, 2, 4),
		Slots:   n.one(1, 1, 2, 3, 16),
		Spin:    n.one(0, 0, 1, 3, 8),
		Count:   n.one(1, 2, 3, 60),
		Bias:    uint8(n.one(0, 1, 2, 5, 255, 255)),
		Rebias:  rebias,
		Revoke:  min(100, rebias*n.one(1, 2, 5, 100)),
		Seed:    uint64(n.below(1 << 20)),
	}
}

// prog is a drawn program of any operations; often of one object for some time, which
// is entered and let go, and waited at or told between.
func (n *numbers) prog(c api.Config, most int) []api.Op {
	var l []api.Op
	for want := n.below(most + 1); len(l) < want; {
		o := api.Op{Kind: n.one(1, 1, 1, 1, 2, 2, 3, 3, 3, 3, 4, 4, 4, 5, 5, 6, 7, 8, 9), Obj: n.below(c.Objects)}
		if n.below(2) == 0 && len(l)+3 <= want {
			between := api.Op{Kind: n.one(op.Wait, op.Wait, op.Notify, op.All), Obj: o.Obj}
			l = append(l, api.Op{Kind: op.Enter, Obj: o.Obj}, between, api.Op{Kind: op.Exit, Obj: o.Obj})
			continue
		}
		switch o.Kind {
		case op.Wait:
			o.Arg = n.one(0, 1, 1, 2, 5, 30)
		case op.Interrupt:
			o.Obj, o.Arg = 0, n.below(c.Threads)
		}
		l = append(l, o)
	}
	return l
}

// machine is a drawn one, driven for a while.
func (n *numbers) machine(t testing.TB) *core.Machine {
	t.Helper()
	c := n.config()
	var progs [][]api.Op
	for range c.Threads {
		progs = append(progs, n.prog(c, n.one(3, 8, 20, 60)))
	}
	m, err := core.New(c, progs)
	if err != api.OK {
		t.Fatalf("New of %+v, %v is %d", c, progs, err)
	}
	for range n.one(10, 100, 600, 2000) {
		switch n.below(20) {
		case 0:
			m.Tick(int64(n.one(1, 1, 2, 30)))
		case 1:
			m.Deflate()
		default:
			if may := m.Runnable(); len(may) > 0 {
				m.Pick(n.one(may...))
			}
		}
	}
	return m
}

// P27.3, P27.4, P27.5: the logs of drawn machines.
func TestMachines(t *testing.T) {
	n := numbers(27345)
	var met seen
	for range 4000 {
		m := n.machine(t)
		if m.Broken() {
			t.Fatalf("it broke:\n%s", text(m.Log()))
		}
		c := m.Config()
		w := world{c.Threads, c.Objects, c.Count}
		log := m.Log()
		rightHolds(t, w, log, n.one(1, 3, 17))
		logHolds(t, &n, w, log)
		met.add(log, w)
	}
	met.isEnough(t, 100)
}

// P27.1, P27.2: a machine whose course is written out: one owns twice, waits and is told;
// its End is in the midst of the other one's first Exit.
func TestCourseOfAMachine(t *testing.T) {
	mine, _ := op.Parse("enter 0; enter 0; wait 0; exit 0; exit 0")
	other, _ := op.Parse("enter 0; notify 0; exit 0; exit 0")
	c := api.Config{Threads: 2, Objects: 2, Classes: 1, Slots: 1, Count: 3, Rebias: 1, Revoke: 1}
	m, err := core.New(c, [][]api.Op{mine, other})
	if err != api.OK {
		t.Fatal(err)
	}
	for _, x := range []struct {
		thread int
		zero   stat.Counts
	}{
		{0, stat.Counts{Owned: 1, Again: 1, Waits: 1}},
		{1, stat.Counts{Owned: 2, Again: 1, Waits: 1, Woken: 1, Free: 1, Strange: 1, Back: 1}},
		{0, stat.Counts{Owned: 2, Again: 1, Waits: 1, Woken: 1, Free: 2, Strange: 1, Back: 1, Kept: 1}},
	} {
		for m.Pick(x.thread) {
		}
		log := m.Log()
		if got := stat.Of(log, 0); got != x.zero {
			t.Errorf("Of 0 is %+v", got)
		}
		if got := stat.Of(log, 1); got != (stat.Counts{}) {
			t.Errorf("Of 1 is %+v", got)
		}
		rightHolds(t, world{2, 2, 3}, log, 1)
	}
	for thread, want := range [][]int{{3, 3, 17, 3, 3}, {3, 4, 4, 3}} {
		if got := stat.Spans(m.Log(), thread); !slices.Equal(got, want) {
			t.Errorf("Spans of %d are %v", thread, got)
		}
	}
	if thread, most := stat.Longest(m.Log()); thread != 0 || most != 17 {
		t.Errorf("Longest is %d, %d", thread, most)
	}
}
