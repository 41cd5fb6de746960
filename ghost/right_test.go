package ghost_test

import (
	"math"
	"slices"
	"testing"

	"futtock/api"
	"futtock/ghost"
	"futtock/model"
)

// small is what the texts' logs are made of.
var small = world{threads: 3, objects: 2, most: 2}

// What is ahead of cases.
const (
	owns  = "0 call enter 0; 0 enter 0; 0 return"                                     // 0 owns 0
	twice = owns + "; 0 call enter 0; 0 enter 0; 0 return"                            // 0 owns 0 as often as may be
	waits = twice + "; 0 call wait 0 5; 0 begin 0"                                    // 0 waits at 0
	flag  = "; 2 call interrupt 0 0; 2 interrupt 0 0; 2 return"                       // 0 was interrupted
	late  = waits + "; 0 leave 0 time"                                                // 0 left 0, late
	two   = waits + "; 2 call enter 0; 2 enter 0; 2 return; 2 call wait 0; 2 begin 0" // 0 and 2 wait at 0
	one   = "; 1 call enter 0; 1 enter 0; 1 return"                                   // 1 owns 0
	free  = "; 1 call exit 0; 1 exit 0; 1 return"                                     // 1 lets it go
)

// rights are logs that are right, of three threads, two objects, and a greatest
// count of 2: of each kind of operation each error, and each number that it may
// tell.
var rights = []string{
	owns,
	twice + "; 0 call enter 0; 0 enter 0 over; 0 return over",
	owns + "; 1 call enter 0; 1 enter 0 out; 1 return out; 1 call enter 1; 1 enter 1; 1 return",

	"0 call try 0; 0 try 0; 0 return; 0 call try 0; 0 try 0; 0 return; 0 call try 0; 0 try 0 over; 0 return over",
	owns + "; 1 call try 0; 1 try 0 busy; 1 return busy; 1 call try 1; 1 try 1; 1 return",

	"0 call exit 0; 0 exit 0 state; 0 return state",
	twice + "; 0 call exit 0; 0 exit 0; 0 return; 0 call exit 0; 0 exit 0; 0 return; 0 call exit 0; 0 exit 0 state; 0 return state",
	owns + "; 1 call exit 0; 1 exit 0 state; 1 return state",

	"0 call wait 0; 0 begin 0 state; 0 return state",
	owns + "; 0 call wait 0 7; 0 begin 0 out; 0 return out; 0 call wait 0 7; 0 begin 0 out",
	owns + flag + "; 0 call wait 0 9; 0 begin 0 intr; 0 return intr; 0 call holds 0; 0 holds 0 1; 0 return 1",
	late + "; 0 end 0 time; 0 return time; 0 call exit 0; 0 exit 0; 0 return",
	waits + flag + "; 0 leave 0 intr; 0 end 0 intr; 0 return intr",
	waits + flag + "; 0 leave 0 time; 0 end 0 time; 0 return time; 0 call wait 0 1; 0 begin 0 intr; 0 return intr",
	waits + one + "; 1 call notify 0; 1 wake 0 0; 1 notify 0 0; 1 return 0" + free + "; 0 end 0; 0 return; 0 call holds 0; 0 holds 0 1; 0 return 1",
	two + one + "; 0 leave 0 time; 1 call notify 0; 1 wake 0 2; 1 notify 0 2; 1 return 2" + free + "; 2 end 0",

	owns + "; 0 call notify 0; 0 notify 0 -1; 0 return -1",
	"0 call notify 0; 0 notify 0 -1 state; 0 return -1 state",
	waits + "; 1 call notify 0; 1 notify 0 -1 state; 1 return -1 state",
	two + one + "; 1 call notify 0; 1 wake 0 2; 1 notify 0 2; 1 return 2; 1 call notify 0; 1 wake 0 0; 1 notify 0 0; 1 return; 1 call notify 0; 1 notify 0 -1; 1 return -1",

	owns + "; 0 call all 0; 0 all 0; 0 return",
	"0 call all 0; 0 all 0 state; 0 return state",
	waits + one + "; 1 call all 0; 1 wake 0 0; 1 all 0; 1 return 1; 1 call all 0; 1 all 0; 1 return 0",
	two + one + "; 1 call all 0; 1 wake 0 2; 1 wake 0 0; 1 all 0; 1 return 2",
	two + one + "; 1 call all 0; 1 wake 0 0; 2 leave 0 time; 1 all 0; 1 return 1" + free + "; 2 end 0 time; 2 return time",

	"0 call hash 0; 0 hash 0 3; 0 return 3; 1 call hash 0; 1 hash 0 3; 1 return 3; 1 call hash 1; 1 hash 1 2147483647; 1 return 2147483647",
	owns + "; 1 call hash 0; 1 hash 0 out; 1 return out; 0 call hash 0; 0 hash 0 1; 0 return 1; 1 call hash 0; 1 hash 0 out; 1 return out",

	"0 call holds 0; 0 holds 0; 0 return; 1 call enter 0; 1 enter 0; 1 return; 1 call holds 0; 1 holds 0 1; 1 return 1; 0 call holds 0; 0 holds 0 0; 0 return 0",

	"0 call interrupt 0 2; 0 interrupt 0 2; 0 return; 1 call interrupt 0 1; 1 interrupt 0 1; 1 return; 1 call interrupt 0 0; 1 interrupt 0 0; 1 return",
	// The object of an Interrupt is any one: its commit's is 0.
	"0 call interrupt 1 2; 0 interrupt 0 2; 0 return; 1 call interrupt 1 0; 2 call holds 1; 1 interrupt 0 0; 2 holds 1; 1 return; 2 return",

	// Between the entries of each stand the others'.
	"0 call enter 0; 1 call enter 0; 2 call try 0; 1 enter 0; 0 enter 0 out; 2 try 0 busy; 2 return busy; 1 return; 2 call hash 0; 0 return out; 1 call exit 0; 2 hash 0 1; 1 exit 0; 0 call wait 1 3; 2 return 1; 1 return; 0 begin 1 state; 2 call enter 1; 2 enter 1; 0 return state; 2 return",
	owns + "; 1 call enter 0; 0 call wait 0 1; 0 begin 0; 1 enter 0; 2 call interrupt 0 0; 1 return; 0 leave 0 time; 1 call notify 0; 1 notify 0 -1; 2 interrupt 0 0; 1 return -1; 1 call exit 0; 1 exit 0; 0 end 0 time; 1 return; 2 return; 0 return time",
	// Two wait at two objects, of which one is owned by one who waits.
	"0 call enter 0; 1 call enter 1; 0 enter 0; 1 enter 1; 0 return; 1 return; 0 call enter 1; 0 enter 1 out; 0 return out; 0 call wait 0; 0 begin 0; 1 call enter 0; 1 enter 0; 1 return; 1 call wait 1 4; 1 begin 1; 2 call enter 1; 2 enter 1; 2 return; 2 call all 1; 2 wake 1 1; 2 all 1; 2 return 1; 2 call notify 0; 2 notify 0 -1 state; 2 return -1 state",
}

// rightLogs are the entries of rights.
func rightLogs(t *testing.T) [][]ghost.Entry {
	t.Helper()
	var l [][]ghost.Entry
	for _, text := range rights {
		l = append(l, entries(t, text))
	}
	return l
}

// P15.1, P15.2: each entry of logs that are right is taken, and behind each Len,
// All, Open and Model tell of the log so far.
func TestRightLogs(t *testing.T) {
	for i, l := range rightLogs(t) {
		log := small.made(t)
		small.shows(t, log, nil)
		for k, e := range l {
			if !small.isRight(l[:k+1]) {
				t.Fatalf("%q: %s should be right", rights[i], line(e))
			}
			if err := log.Add(e); err != api.OK {
				t.Fatalf("%q: Add of %s is %d", rights[i], line(e), err)
			}
			small.shows(t, log, l[:k+1])
		}
	}
}

// candidates are all entries of few numbers: such as may be behind those entries and
// such as may not.
func candidates(ahead []ghost.Entry) []ghost.Entry {
	l := make([]ghost.Entry, 0, 6000)
	errs := []api.Errno{-1, api.OK, api.ErrState, api.ErrOver, api.ErrOut, api.ErrIntr, api.ErrTime, api.ErrBusy, 16}
	for thread := range small.threads {
		next := len(operations(ahead, thread))
		for obj := range small.objects {
			for arg := -1; arg <= small.threads; arg++ {
				for kind := range 11 {
					for number := next - 1; number <= next+1; number++ {
						l = append(l, ghost.Entry{Kind: ghost.Call, Thread: thread, Number: number, Op: api.Op{Kind: kind, Obj: obj, Arg: arg}})
					}
				}
				for kind := range 14 {
					for _, err := range errs {
						l = append(l, ghost.Entry{Kind: ghost.Commit, Thread: thread, Event: model.Event{Kind: kind, Thread: thread, Obj: obj, Arg: arg, Err: err}})
					}
				}
			}
		}
		for number := next - 2; number <= next; number++ {
			for value := -1; value <= small.threads; value++ {
				for _, err := range errs {
					l = append(l, ghost.Entry{Kind: ghost.Return, Thread: thread, Number: number, Value: value, Err: err})
				}
			}
		}
	}
	return l
}

// P15.1: behind each beginning of a right log, all entries of few numbers.
func TestAllEntriesBehindEachBeginning(t *testing.T) {
	for i, l := range rightLogs(t) {
		t.Run(rights[i], func(t *testing.T) {
			t.Parallel()
			log := small.made(t)
			for k := range len(l) + 1 {
				ahead := l[:k]
				longer := append(slices.Clone(ahead), ghost.Entry{})
				for _, e := range candidates(ahead) {
					longer[k] = e
					if small.isRight(longer) {
						small.shows(t, small.log(t, longer), longer)
					} else if err := log.Add(e); err != api.ErrBroken {
						t.Fatalf("behind %s Add of %s is %d", lines(ahead), line(e), err)
					}
				}
				small.shows(t, log, ahead)
				if k < len(l) && log.Add(l[k]) != api.OK {
					t.Fatalf("behind %s %s is refused", lines(ahead), line(l[k]))
				}
			}
		})
	}
}

// turned are an entry with another number in one of its fields.
func turned(e ghost.Entry) []ghost.Entry {
	var l []ghost.Entry
	set := func(at func(e *ghost.Entry) *int) {
		was := *at(&e)
		for _, n := range []int{
			-1, 0, 1, 2, 3, 4, 5, 8, 9, 10, 15, 16, was - 1, was + 1, -was, was + 256, was + 1<<32, was - 1<<32, math.MaxInt, math.MinInt, math.MinInt + 1,
		} {
			c := e
			*at(&c) = n
			l = append(l, c)
		}
	}
	set(func(e *ghost.Entry) *int { return &e.Kind })
	set(func(e *ghost.Entry) *int { return &e.Thread })
	set(func(e *ghost.Entry) *int { return &e.Number })
	set(func(e *ghost.Entry) *int { return &e.Op.Kind })
	set(func(e *ghost.Entry) *int { return &e.Op.Obj })
	set(func(e *ghost.Entry) *int { return &e.Op.Arg })
	set(func(e *ghost.Entry) *int { return &e.Event.Kind })
	set(func(e *ghost.Entry) *int { return &e.Event.Thread })
	set(func(e *ghost.Entry) *int { return &e.Event.Obj })
	set(func(e *ghost.Entry) *int { return &e.Event.Arg })
	set(func(e *ghost.Entry) *int { return (*int)(&e.Event.Err) })
	set(func(e *ghost.Entry) *int { return &e.Value })
	set(func(e *ghost.Entry) *int { return (*int)(&e.Err) })
	return l
}

// P15.1: each entry of right logs with another number in one field, at its place.
func TestEntriesWithOneOtherNumber(t *testing.T) {
	for i, l := range rightLogs(t) {
		t.Run(rights[i], func(t *testing.T) {
			t.Parallel()
			log := small.made(t)
			for k, e := range l {
				ahead := l[:k]
				other := slices.Clone(l)
				for _, c := range turned(e) {
					other[k] = c
					if small.isRight(other[:k+1]) {
						small.log(t, other[:k+1])
						continue
					}
					if err := log.Add(c); err != api.ErrBroken {
						t.Fatalf("behind %s Add of %s is %d", lines(ahead), line(c), err)
					}
					if n, ok := ghost.Right(small.threads, small.objects, small.most, other); n != k || ok {
						t.Fatalf("Right is %d, %v, not %d, false: behind %s %s", n, ok, k, lines(ahead), line(c))
					}
				}
				small.shows(t, log, ahead)
				log.Add(e)
			}
			small.shows(t, log, l)
		})
	}
}

// P15.2: Right of a whole log, of each beginning of it, of what is left without its
// first entry, and of one with each of its entries once more in the middle.
func TestRight(t *testing.T) {
	right := func(l []ghost.Entry) {
		t.Helper()
		want := 0
		for want < len(l) && small.isRight(l[:want+1]) {
			want++
		}
		was := slices.Clone(l)
		n, ok := ghost.Right(small.threads, small.objects, small.most, l)
		if n != want || ok != (want == len(l)) {
			t.Fatalf("Right of %s is %d, %v, not %d", lines(l), n, ok, want)
		}
		if !slices.Equal(l, was) {
			t.Fatalf("Right turned %s to %s", lines(was), lines(l))
		}
	}
	for i, l := range rightLogs(t) {
		if n, ok := ghost.Right(small.threads, small.objects, small.most, l); n != len(l) || !ok {
			t.Fatalf("Right of %q is %d, %v, not %d", rights[i], n, ok, len(l))
		}
		for k := range len(l) + 1 {
			if n, ok := ghost.Right(small.threads, small.objects, small.most, l[:k]); n != k || !ok {
				t.Fatalf("Right of %d of %q is %d, %v", k, rights[i], n, ok)
			}
			right(l[k:])
		}
		for k := range l {
			right(slices.Insert(slices.Clone(l), k, l[k]))
			right(slices.Delete(slices.Clone(l), k, k+1))
			right(slices.Insert(slices.Clone(l), k, ghost.Entry{}))
		}
	}
	for _, none := range [][]ghost.Entry{nil, {}} {
		if n, ok := ghost.Right(small.threads, small.objects, small.most, none); n != 0 || !ok {
			t.Errorf("Right of no entries is %d, %v", n, ok)
		}
	}
}

// P15.2: what is right with so many threads, objects and such a count is not with
// fewer.
func TestRightHangsOnItsNumbers(t *testing.T) {
	for _, x := range []struct {
		text string
		w    world
		want int
	}{
		{"1 call holds 0; 1 holds 0; 1 return", world{2, 1, 1}, 3},
		{"1 call holds 0; 1 holds 0; 1 return", world{1, 8, 60}, 0},
		{"7 call holds 7; 7 holds 7; 7 return", world{8, 8, 1}, 3},
		{"7 call holds 7; 7 holds 7; 7 return", world{7, 8, 60}, 0},
		{"7 call holds 7; 7 holds 7; 7 return", world{8, 7, 60}, 0},
		{"0 call interrupt 0 7; 0 interrupt 0 7; 0 return", world{8, 1, 1}, 3},
		{"0 call interrupt 0 7; 0 interrupt 0 7; 0 return", world{7, 8, 60}, 0},
		{twice, world{1, 1, 2}, 6},
		{twice, world{1, 1, 1}, 4},
		{owns + "; 0 call enter 0; 0 enter 0 over; 0 return over", world{1, 1, 1}, 6},
		{owns + "; 0 call enter 0; 0 enter 0 over; 0 return over", world{1, 1, 2}, 4},
	} {
		l := entries(t, x.text)
		if n, ok := ghost.Right(x.w.threads, x.w.objects, x.w.most, l); n != x.want || ok != (x.want == len(l)) {
			t.Errorf("Right of %v, %q is %d, %v, not %d", x.w, x.text, n, ok, x.want)
		}
		log := x.w.made(t)
		for i, e := range l[:min(x.want+1, len(l))] {
			if err := log.Add(e); (err == api.OK) != (i < x.want) {
				t.Errorf("%v, %q: Add of %s is %d", x.w, x.text, line(e), err)
			}
		}
		x.w.shows(t, log, l[:x.want])
	}
}
