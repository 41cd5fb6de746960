package ghost_test

import (
	"math"
	"slices"
	"strconv"
	"testing"

	"futtock/api"
	"futtock/ghost"
	"futtock/model"
)

// wrongSizes are such as there may not be, of a thing of which there are at most so
// many.
func wrongSizes(most int) []int {
	return []int{0, -1, -2, -most, most + 1, most + 2, 2 * most, 256, 1 << 32, 1<<32 + 1, -1 << 32, math.MaxInt, math.MinInt, math.MinInt + 1}
}

// wrongWorlds are such as New refuses.
func wrongWorlds() []world {
	var l []world
	for _, n := range wrongSizes(8) {
		l = append(l, world{n, 1, 1}, world{1, n, 1}, world{n, 8, 60}, world{8, n, 60}, world{n, n, n})
	}
	for _, n := range wrongSizes(60) {
		l = append(l, world{1, 1, n}, world{8, 8, n})
	}
	return l
}

// P15.1, P15.2: a new log is empty, and its last thread, its last object and its
// greatest count are such as may be, not the ones behind them.
func TestNew(t *testing.T) {
	for _, threads := range []int{1, 2, 7, 8} {
		for _, objects := range []int{1, 2, 7, 8} {
			for _, count := range []int{1, 2, 59, 60} {
				w := world{threads, objects, count}
				log := w.made(t)
				w.shows(t, log, nil)
				for _, o := range []api.Op{{Kind: enter, Obj: objects}, {Kind: interrupt, Arg: threads}, {Kind: wait, Obj: objects, Arg: 1}} {
					for thread := range threads {
						if err := log.Add(ghost.Entry{Kind: ghost.Call, Thread: thread, Op: o}); err != api.ErrBroken {
							t.Errorf("%v: a Call of %v is %d", w, o, err)
						}
					}
				}
				for _, e := range []ghost.Entry{{Kind: ghost.Call, Thread: threads, Op: api.Op{Kind: enter}}, {Kind: ghost.Commit, Thread: threads, Event: model.Event{Kind: model.Enter, Thread: threads}}, {Kind: ghost.Return, Thread: threads}} {
					if err := log.Add(e); err != api.ErrBroken {
						t.Errorf("%v: Add of %s is %d", w, line(e), err)
					}
				}
				w.shows(t, log, nil)
				w.goesUpToItsCount(t, log)
			}
		}
	}
}

// goesUpToItsCount lets the last thread own the last object as often as may be, and
// once more, and shows that the empty log goes along.
func (w world) goesUpToItsCount(t *testing.T, log *ghost.Log) {
	t.Helper()
	thread, obj := w.threads-1, w.objects-1
	var l []ghost.Entry
	for n := range w.most + 2 {
		err := api.OK
		if n >= w.most {
			err = api.ErrOver
		}
		for _, e := range []ghost.Entry{
			{Kind: ghost.Call, Thread: thread, Number: n, Op: api.Op{Kind: enter, Obj: obj}},
			{Kind: ghost.Commit, Thread: thread, Event: model.Event{Kind: model.Enter, Thread: thread, Obj: obj, Err: err}},
			{Kind: ghost.Return, Thread: thread, Number: n, Err: err},
		} {
			other := e
			other.Event.Err = api.ErrOver - err
			if e.Kind == ghost.Commit && log.Add(other) != api.ErrBroken {
				t.Fatalf("%v: the Enter %d is %d", w, n, other.Event.Err)
			}
			if got := log.Add(e); got != api.OK {
				t.Fatalf("%v: Add of %s is %d", w, line(e), got)
			}
			l = append(l, e)
		}
	}
	w.shows(t, log, l)
}

// P15.1: so many there may not be.
func TestNewOfWhatMayNotBe(t *testing.T) {
	for _, w := range wrongWorlds() {
		if l, err := ghost.New(w.threads, w.objects, w.most); l != nil || err != api.ErrArg {
			t.Errorf("New(%v) is %v, %d", w, l, err)
		}
	}
}

// P15.2: Right of as many as may not be: no entry is right, and of no entries that is
// all.
func TestRightOfWhatMayNotBe(t *testing.T) {
	for _, w := range wrongWorlds() {
		for _, l := range [][]ghost.Entry{nil, {}, entries(t, owns), entries(t, "0 call enter 0 #1"), {{}}} {
			if n, ok := ghost.Right(w.threads, w.objects, w.most, l); n != 0 || ok != (len(l) == 0) {
				t.Errorf("Right(%v) of %d entries is %d, %v", w, len(l), n, ok)
			}
		}
	}
}

// P15.2: a nil log, and one that New did not give, in every call.
func TestLogsThatNewDidNotGive(t *testing.T) {
	refused, _ := ghost.New(9, 1, 1)
	for i, l := range []*ghost.Log{nil, {}, new(ghost.Log), refused} {
		for range 2 {
			for _, e := range candidates(nil) {
				if err := l.Add(e); err != api.ErrNil {
					t.Fatalf("%d: Add of %s is %d", i, line(e), err)
				}
			}
			for _, e := range turned(entry(t, nil, "0 call enter 0")) {
				if err := l.Add(e); err != api.ErrNil {
					t.Fatalf("%d: Add of %s is %d", i, line(e), err)
				}
			}
			if all := l.All(); len(all) != 0 {
				t.Errorf("%d: All are %v", i, all)
			}
			if n := l.Len(); n != 0 {
				t.Errorf("%d: Len is %d", i, n)
			}
			for _, thread := range []int{0, 1, 7, 8, -1, math.MaxInt, math.MinInt} {
				if o, ok := l.Open(thread); o != (api.Op{}) || ok {
					t.Errorf("%d: Open(%d) is %v, %v", i, thread, o, ok)
				}
			}
			if m := l.Model(); m != nil {
				t.Errorf("%d: Model is %v", i, m)
			}
		}
	}
}

// P15.2: Open tells the whole operation, of its thread alone, from its Call to its
// Return, and nothing of threads that there are not, though some have the lowest bits
// of one.
func TestOpen(t *testing.T) {
	log := small.made(t)
	var so []ghost.Entry
	for _, text := range []string{
		"1 call enter 1", "1 enter 1", "1 return", "1 call wait 1 77", "1 begin 1", "0 call interrupt 1 2", "1 leave 1 time",
		"0 interrupt 0 2", "2 call holds 1", "1 end 1 time", "0 return", "2 holds 1", "1 return time", "2 return",
	} {
		e := entry(t, so, text)
		if err := log.Add(e); err != api.OK {
			t.Fatalf("Add of %q is %d", text, err)
		}
		so = append(so, e)
		small.shows(t, log, so)
		for _, thread := range []int{-1, -2, 3, 4, 7, 8, 256, 257, 1 << 32, 1<<32 + 1, -1 << 32, math.MaxInt, math.MinInt, math.MinInt + 1} {
			if o, ok := log.Open(thread); o != (api.Op{}) || ok {
				t.Errorf("behind %q Open(%d) is %v, %v", text, thread, o, ok)
			}
		}
		if text == "1 leave 1 time" {
			if o, ok := log.Open(1); o != (api.Op{Kind: wait, Obj: 1, Arg: 77}) || !ok {
				t.Errorf("Open(1) is %v, %v", o, ok)
			}
			if o, ok := log.Open(0); o != (api.Op{Kind: interrupt, Obj: 1, Arg: 2}) || !ok {
				t.Errorf("Open(0) is %v, %v", o, ok)
			}
		}
	}
}

// P15.1: numbers of operations count thread by thread, and go on.
func TestNumbersGoOn(t *testing.T) {
	w := world{2, 1, 1}
	log := w.made(t)
	numbers := [2]int{}
	for i := range 3000 {
		thread := i % 3 / 2
		n := numbers[thread]
		numbers[thread]++
		for _, wrong := range []int{n - 1, n + 1, n - 256, n + 256, n + 1<<32} {
			if err := log.Add(ghost.Entry{Kind: ghost.Call, Thread: thread, Number: wrong, Op: api.Op{Kind: holds}}); err != api.ErrBroken {
				t.Fatalf("the Call %d of %d as the number %d is %d", n, thread, wrong, err)
			}
		}
		for _, e := range []ghost.Entry{
			{Kind: ghost.Call, Thread: thread, Number: n, Op: api.Op{Kind: holds}},
			{Kind: ghost.Commit, Thread: thread, Event: model.Event{Kind: model.Holds, Thread: thread}},
			{Kind: ghost.Return, Thread: thread, Number: n},
		} {
			if err := log.Add(e); err != api.OK {
				t.Fatalf("the entry %s is %d", line(e), err)
			}
		}
	}
	if n, ok := ghost.Right(2, 1, 1, log.All()); n != 9000 || !ok || log.Len() != 9000 {
		t.Errorf("Right is %d, %v, Len %d", n, ok, log.Len())
	}
}

// P15.1: of a Wait the ticks may be any number from 0 on, and play no part in how it
// ends.
func TestTicks(t *testing.T) {
	for _, ticks := range []int{0, 1, 1000000, 1000001, 1 << 40, 1<<40 + 1, math.MaxInt} {
		text := owns + "; 0 call wait 0 " + strconv.Itoa(ticks) + "; 0 begin 0; 0 leave 0 time; 0 end 0 time; 0 return time"
		l := entries(t, text)
		log := small.log(t, l)
		small.shows(t, log, l)
	}
	for _, ticks := range []int{-1, -1000000, -1 << 40, math.MinInt, math.MinInt + 1} {
		log := small.made(t)
		if err := log.Add(ghost.Entry{Kind: ghost.Call, Op: api.Op{Kind: wait, Arg: ticks}}); err != api.ErrBroken {
			t.Errorf("a Wait of %d ticks is %d", ticks, err)
		}
	}
}

// P15.2: All and Model are the caller's, who may write into them: the log, and what
// it told ahead and tells then, are as they were.
func TestAnswersAreTheCallers(t *testing.T) {
	l := entries(t, two+one+"; 1 call all 0; 1 wake 0 0")
	log := small.log(t, l)
	was, model1 := log.All(), log.Model()
	for range 3 {
		got := log.All()
		for i := range got {
			got[i] = ghost.Entry{Kind: 9, Thread: -1}
		}
		got = append(got[:1], ghost.Entry{Kind: ghost.Call}, ghost.Entry{Kind: ghost.Call})
		got[0].Number = 5
		m := log.Model()
		for _, e := range []model.Event{
			{Kind: model.Wake, Thread: 1, Arg: 2}, {Kind: model.Exit, Thread: 1}, {Kind: model.End, Thread: 0}, {Kind: model.Hash, Thread: 1, Arg: 8}, {Kind: model.Interrupt, Thread: 1, Arg: 2},
		} {
			if err := m.Apply(e); err != api.OK {
				t.Fatalf("Apply(%v) is %d", e, err)
			}
		}
		if m.Same(model1) || m == log.Model() {
			t.Error("a Model that was changed is the same")
		}
		small.shows(t, log, l)
	}
	behind := "; 1 wake 0 2; 1 all 0; 1 return 2" + free + "; 2 end 0"
	longer := entries(t, two+one+"; 1 call all 0; 1 wake 0 0"+behind)
	for _, e := range longer[len(l):] {
		if err := log.Add(e); err != api.OK {
			t.Fatalf("Add of %s is %d", line(e), err)
		}
	}
	small.shows(t, log, longer)
	if !slices.Equal(was, l) || !model1.Same(small.behind(l)) {
		t.Error("what was told ahead is turned by what was added behind")
	}
}

// P15.1, P15.2: two logs go on alone, one of them by what the other one told.
func TestLogsAreApart(t *testing.T) {
	l := entries(t, waits)
	a := small.log(t, l)
	told := a.All()
	b := small.made(t)
	for _, e := range told {
		if err := b.Add(e); err != api.OK {
			t.Fatalf("Add of %s is %d", line(e), err)
		}
	}
	for i := range told {
		told[i] = ghost.Entry{}
	}
	small.shows(t, b, l)
	left := entries(t, late)
	b.Add(left[len(left)-1])
	small.shows(t, a, l)
	small.shows(t, b, left)
	entered := entries(t, waits+one)
	for _, e := range entered[len(l):] {
		a.Add(e)
	}
	small.shows(t, a, entered)
	small.shows(t, b, left)
}

// P15.2: entries that Right was handed are the caller's: behind the call it looks at
// them no more, nor does it in the call write into them, or behind their end.
func TestRightLeavesItsEntries(t *testing.T) {
	l := entries(t, two+one)
	room := append(slices.Grow(slices.Clone(l), 8), ghost.Entry{Kind: 77})
	if n, ok := ghost.Right(small.threads, small.objects, small.most, room[:len(l)]); n != len(l) || !ok {
		t.Fatalf("Right is %d, %v", n, ok)
	}
	if !slices.Equal(room[:len(l)], l) || room[len(l)] != (ghost.Entry{Kind: 77}) {
		t.Error("Right wrote into its entries")
	}
	room[0] = ghost.Entry{}
	if n, ok := ghost.Right(small.threads, small.objects, small.most, room); n != 0 || ok {
		t.Errorf("Right is %d, %v", n, ok)
	}
	if n, ok := ghost.Right(small.threads, small.objects, small.most, l); n != len(l) || !ok {
		t.Errorf("Right is %d, %v", n, ok)
	}
}
