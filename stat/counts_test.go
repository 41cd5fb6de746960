package stat_test

import (
	"math"
	"slices"
	"testing"

	"futtock/api"
	"futtock/ghost"
	"futtock/model"
	"futtock/stat"
)

// P27.1: the document's example.
func TestEnterEnterExitExit(t *testing.T) {
	log := commits(t, "0 enter 0; 0 enter 0; 0 exit 0; 0 exit 0")
	want := stat.Counts{Owned: 1, Again: 1, Kept: 1, Free: 1}
	if got := stat.Of(log, 0); got != want {
		t.Errorf("Of is %+v", got)
	}
	if got := stat.Total(log); got != want {
		t.Errorf("Total is %+v", got)
	}
}

// P27.1: what logs come to, written out.
func TestCounts(t *testing.T) {
	for _, x := range []struct {
		log  string
		want stat.Counts
	}{
		// Once, more than once, and let go step by step.
		{"0 enter 0", stat.Counts{Owned: 1}},
		{"0 try 0", stat.Counts{Owned: 1}},
		{"0 enter 0; 0 exit 0", stat.Counts{Owned: 1, Free: 1}},
		{"0 enter 0; 0 exit 0; 1 enter 0; 1 exit 0", stat.Counts{Owned: 2, Free: 2}},
		{"0 try 0; 0 enter 0; 0 try 0", stat.Counts{Owned: 1, Again: 2}},
		{"0 try 0; 0 enter 0; 0 try 0; 0 exit 0", stat.Counts{Owned: 1, Again: 2, Kept: 1}},
		{"0 try 0; 0 enter 0; 0 try 0; 0 exit 0; 0 exit 0", stat.Counts{Owned: 1, Again: 2, Kept: 2}},
		{"0 try 0; 0 enter 0; 0 try 0; 0 exit 0; 0 exit 0; 0 exit 0", stat.Counts{Owned: 1, Again: 2, Kept: 2, Free: 1}},
		{"0 enter 0; 0 enter 0; 0 exit 0; 0 enter 0; 0 exit 0; 0 exit 0; 0 enter 0", stat.Counts{Owned: 2, Again: 2, Kept: 2, Free: 1}},
		// What is refused, and what is not owned, turns nothing.
		{"0 enter 0; 0 enter 0 over; 0 exit 0", stat.Counts{Owned: 1, Refused: 1, Free: 1}},
		{"1 enter 0 out; 1 try 0 busy; 1 try 0 over; 0 enter 0", stat.Counts{Refused: 3, Owned: 1}},
		{"1 exit 0 state; 1 begin 0 state; 1 notify 0 state; 1 all 0 state; 1 enter 0", stat.Counts{Strange: 4, Owned: 1}},
		{"0 enter 0; 1 exit 0 state; 0 enter 0", stat.Counts{Owned: 1, Strange: 1, Again: 1}},
		{"0 enter 0; 0 begin 0 intr; 0 enter 0; 0 begin 0 out; 0 exit 0; 0 exit 0", stat.Counts{Owned: 1, Again: 1, Kept: 1, Free: 1}},
		// Waits: a Begin frees wholly, and the End has as much.
		{"0 enter 0; 0 begin 0", stat.Counts{Owned: 1, Waits: 1}},
		{"0 enter 0; 0 begin 0; 1 enter 0; 1 wake 0; 1 exit 0; 0 end 0; 0 exit 0", stat.Counts{Owned: 2, Waits: 1, Woken: 1, Free: 2, Back: 1}},
		{"0 enter 0; 0 enter 0; 0 enter 0; 0 begin 0; 1 enter 0; 1 exit 0", stat.Counts{Owned: 2, Again: 2, Waits: 1, Free: 1}},
		{"0 enter 0; 0 enter 0; 0 begin 0; 0 leave 0 time; 0 end 0 time; 0 exit 0", stat.Counts{Owned: 1, Again: 1, Waits: 1, Left: 1, Back: 1, Kept: 1}},
		{"0 enter 0; 0 enter 0; 0 begin 0; 0 leave 0 intr; 0 end 0 intr; 0 exit 0; 0 exit 0", stat.Counts{Owned: 1, Again: 1, Waits: 1, Left: 1, Back: 1, Kept: 1, Free: 1}},
		{"0 enter 0; 0 enter 0; 0 enter 0; 0 begin 0; 0 end 0; 0 exit 0; 0 exit 0; 0 exit 0", stat.Counts{Owned: 1, Again: 2, Waits: 1, Back: 1, Kept: 2, Free: 1}},
		{"0 enter 0; 0 enter 0; 0 begin 0; 1 enter 0; 1 begin 0; 1 end 0; 1 exit 0; 0 end 0; 0 exit 0; 0 exit 0", stat.Counts{Owned: 2, Again: 1, Waits: 2, Back: 2, Free: 2, Kept: 1}},
		{"0 enter 0; 0 begin 0; 1 enter 0; 1 enter 0; 1 begin 0; 0 end 0; 0 exit 0; 1 end 0; 1 exit 0; 1 exit 0", stat.Counts{Owned: 2, Again: 1, Waits: 2, Back: 2, Free: 2, Kept: 1}},
		// The last Begin counts, not one ahead of it.
		{"0 enter 0; 0 enter 0; 0 begin 0; 0 end 0; 0 exit 0; 0 begin 0; 0 end 0; 0 exit 0", stat.Counts{Owned: 1, Again: 1, Waits: 2, Back: 2, Kept: 1, Free: 1}},
		{"0 enter 0; 0 begin 0; 0 end 0; 0 enter 0; 0 begin 0; 0 end 0; 0 exit 0; 0 exit 0", stat.Counts{Owned: 1, Again: 1, Waits: 2, Back: 2, Kept: 1, Free: 1}},
		// One that was refused is none of them.
		{"0 enter 0; 0 enter 0; 0 begin 0; 0 begin 0 state; 0 end 0; 0 exit 0", stat.Counts{Owned: 1, Again: 1, Waits: 1, Strange: 1, Back: 1, Kept: 1}},
		// Hashes, and what has no count.
		{"0 hash 0; 1 hash 0; 1 hash 0 out", stat.Counts{Hashes: 2}},
		{"0 enter 0; 0 notify 0; 0 all 0; 0 holds 0; 1 holds 0; 1 interrupt 0; 0 enter 0", stat.Counts{Owned: 1, Again: 1}},
		{"0 enter 0; 0 wake 0; 0 wake 0; 0 all 0; 0 enter 0", stat.Counts{Owned: 1, Woken: 2, Again: 1}},
	} {
		log := commits(t, x.log)
		if got := stat.Of(log, 0); got != x.want {
			t.Errorf("%s: Of is %+v", x.log, got)
		}
		if got := stat.Total(log); got != x.want {
			t.Errorf("%s: Total is %+v", x.log, got)
		}
		countsHold(t, log, 1)
	}
}

// P27.1: logs that are not right, written out.
func TestCountsOfWrongLogs(t *testing.T) {
	for _, x := range []struct {
		log  string
		want stat.Counts
	}{
		// An Exit of what nobody owns.
		{"0 exit 0", stat.Counts{Free: 1}},
		{"0 exit 0; 0 exit 0; 0 enter 0", stat.Counts{Free: 2, Owned: 1}},
		{"0 exit 0; 0 enter 0; 0 enter 0; 0 exit 0", stat.Counts{Free: 1, Owned: 1, Again: 1, Kept: 1}},
		// An End without a Begin of its thread ahead of it.
		{"0 end 0; 0 exit 0", stat.Counts{Back: 1, Free: 1}},
		{"0 end 0 time; 0 exit 0", stat.Counts{Back: 1, Free: 1}},
		{"0 end 0 intr; 0 enter 0; 0 exit 0", stat.Counts{Back: 1, Again: 1, Kept: 1}},
		{"0 enter 0; 0 enter 0; 0 begin 0; 1 end 0; 1 exit 0", stat.Counts{Owned: 1, Again: 1, Waits: 1, Back: 1, Free: 1}},
		{"0 enter 0; 0 enter 0; 0 enter 0; 0 end 0; 0 exit 0", stat.Counts{Owned: 1, Again: 2, Back: 1, Free: 1}},
		// One with a Begin that had it not at all.
		{"0 begin 0; 0 end 0; 0 exit 0", stat.Counts{Waits: 1, Back: 1, Free: 1}},
		{"0 enter 0; 0 enter 0; 0 begin 0; 0 begin 0; 0 end 0; 0 exit 0", stat.Counts{Owned: 1, Again: 1, Waits: 2, Back: 1, Free: 1}},
		// A second End goes by the same Begin; one that is none of the three is none.
		{"0 enter 0; 0 enter 0; 0 begin 0; 0 end 0; 0 exit 0; 0 exit 0; 0 end 0; 0 exit 0", stat.Counts{Owned: 1, Again: 1, Waits: 1, Back: 2, Kept: 2, Free: 1}},
		{"0 enter 0; 0 enter 0; 0 begin 0; 0 end 0 state; 0 end 0 out; 0 end 0 busy; 0 end 0 over; 0 enter 0", stat.Counts{Owned: 2, Again: 1, Waits: 1, Strange: 1}},
		// Another thread enters, or leaves, while one owns it: nobody's count is apart.
		{"0 enter 0; 1 enter 0; 0 exit 0; 1 exit 0", stat.Counts{Owned: 1, Again: 1, Kept: 1, Free: 1}},
		{"0 enter 0; 1 exit 0; 0 exit 0", stat.Counts{Owned: 1, Free: 2}},
		{"0 enter 0; 0 enter 0; 1 begin 0; 0 enter 0; 0 exit 0; 1 end 0; 1 exit 0; 1 exit 0", stat.Counts{Owned: 2, Again: 1, Waits: 1, Free: 2, Back: 1, Kept: 1}},
		{"0 enter 0; 1 end 0; 0 exit 0; 0 exit 0", stat.Counts{Owned: 1, Back: 1, Free: 2}},
		// Errors that a kind never tells.
		{"0 enter 0 busy; 0 try 0 out; 0 enter 0 state; 0 try 0 state; 0 enter 0", stat.Counts{Refused: 2, Strange: 2, Owned: 1}},
		{"0 enter 0 time; 0 try 0 intr; 0 exit 0 time; 0 exit 0 over; 0 exit 0 busy; 0 exit 0 out", stat.Counts{}},
		{"0 leave 0; 0 leave 0 out; 0 leave 0 state; 0 leave 0 time", stat.Counts{Strange: 1, Left: 1}},
		{"0 enter 0; 0 enter 0; 0 begin 0 time; 0 begin 0 over; 0 begin 0 busy; 0 exit 0", stat.Counts{Owned: 1, Again: 1, Kept: 1}},
		{"0 wake 0 time; 0 wake 0 state; 0 hash 0 intr; 0 hash 0 state; 0 hash 0 busy; 0 holds 0 state; 0 interrupt 0 state", stat.Counts{Strange: 4}},
	} {
		log := commits(t, x.log)
		if got := stat.Of(log, 0); got != x.want {
			t.Errorf("%s: Of is %+v", x.log, got)
		}
		countsHold(t, log, 1)
	}
}

// P27.1: of several objects each one's commits count alone.
func TestCountsOfSeveralObjects(t *testing.T) {
	log := commits(t, "0 enter 0; 0 enter 1; 0 enter 1; 1 enter 7 out; 0 enter 0; 0 begin 1; 1 enter 1; 1 enter 1; 0 exit 0; 1 exit 0 state; 0 hash 7; 1 wake 1; 1 exit 1; 1 exit 1; 0 end 1; 0 exit 1; 0 exit 1; 0 exit 0")
	for obj, want := range map[int]stat.Counts{
		0: {Owned: 1, Again: 1, Kept: 1, Strange: 1, Free: 1},
		1: {Owned: 2, Again: 2, Waits: 1, Woken: 1, Kept: 2, Free: 2, Back: 1},
		7: {Refused: 1, Hashes: 1},
		2: {},
	} {
		if got := stat.Of(log, obj); got != want {
			t.Errorf("Of %d is %+v", obj, got)
		}
	}
	if got, want := stat.Total(log), (stat.Counts{Owned: 3, Again: 3, Refused: 1, Free: 3, Kept: 3, Strange: 1, Waits: 1, Back: 1, Woken: 1, Hashes: 1}); got != want {
		t.Errorf("Total is %+v", got)
	}
	// A Begin of another object is no Begin of this one.
	log = commits(t, "0 enter 0; 0 enter 0; 0 enter 0; 0 begin 0; 0 enter 1; 0 enter 1; 0 begin 1; 0 end 0; 0 exit 0; 0 exit 0; 0 exit 0")
	if got, want := stat.Of(log, 0), (stat.Counts{Owned: 1, Again: 2, Waits: 1, Back: 1, Kept: 2, Free: 1}); got != want {
		t.Errorf("Of 0 is %+v", got)
	}
	if got, want := stat.Of(log, 1), (stat.Counts{Owned: 1, Again: 1, Waits: 1}); got != want {
		t.Errorf("Of 1 is %+v", got)
	}
	countsHold(t, log, 2)
}

// P27.1: no entries.
func TestCountsOfNoEntries(t *testing.T) {
	for _, log := range [][]ghost.Entry{nil, {}} {
		for _, obj := range append([]int{0, 1, 7, 8}, extremes...) {
			if got := stat.Of(log, obj); got != (stat.Counts{}) {
				t.Errorf("Of %d is %+v", obj, got)
			}
		}
		if got := stat.Total(log); got != (stat.Counts{}) {
			t.Errorf("Total is %+v", got)
		}
	}
}

// P27.1: Calls and Returns are no commits, whatever stands in them, nor are entries of no
// kind.
func TestWhatIsNoCommit(t *testing.T) {
	for _, kind := range append([]int{ghost.Call, ghost.Return, 0, 4, 5, 1 + 1<<32, 2 + 1<<32}, extremes...) {
		for _, word := range kinds {
			for _, err := range errs {
				e := commit(word, 0, 0, err)
				e.Kind, e.Err, e.Op = kind, err, api.Op{Kind: word}
				log := []ghost.Entry{e, e}
				if of, total := stat.Of(log, 0), stat.Total(log); of != (stat.Counts{}) || total != of {
					t.Errorf("of two of %+v Of is %+v, Total %+v", e, of, total)
				}
			}
		}
	}
	var log []ghost.Entry
	for _, e := range commits(t, "0 enter 0; 0 enter 0; 0 exit 0; 0 begin 0 state") {
		other := e
		other.Kind = ghost.Call
		log = append(log, other, e)
		other.Kind, other.Err = ghost.Return, e.Event.Err
		log = append(log, other)
	}
	if got, want := stat.Of(log, 0), (stat.Counts{Owned: 1, Again: 1, Kept: 1, Strange: 1}); got != want {
		t.Errorf("Of is %+v", got)
	}
}

// P27.1: a commit is what its Event tells: what else stands in the entry plays no part,
// nor does the Event's Arg.
func TestCommitsByTheirEvents(t *testing.T) {
	log := commits(t, "0 enter 0; 0 enter 0; 0 begin 0; 1 enter 0; 1 wake 0; 1 exit 0; 0 end 0; 0 exit 0; 0 exit 0; 1 exit 0 state")
	want := stat.Counts{Owned: 2, Again: 1, Waits: 1, Woken: 1, Free: 2, Back: 1, Kept: 1, Strange: 1}
	if got := stat.Of(log, 0); got != want {
		t.Fatalf("Of is %+v", got)
	}
	for i := range log {
		log[i].Thread, log[i].Number, log[i].Value = 5-i, 3, -i
		log[i].Op, log[i].Err, log[i].Event.Arg = api.Op{Kind: 3, Obj: 1, Arg: 4}, api.ErrState, i-2
	}
	if of, total := stat.Of(log, 0), stat.Total(log); of != want || total != want {
		t.Errorf("Of is %+v, Total %+v", of, total)
	}
}

// one is what a single commit comes to, by its kind and its error.
func one(kind int, err api.Errno) stat.Counts {
	type commit struct {
		kind int
		err  api.Errno
	}
	if err == api.ErrState {
		return stat.Counts{Strange: 1}
	}
	return map[commit]stat.Counts{
		{1, 0}:  {Owned: 1},
		{2, 0}:  {Owned: 1},
		{1, 10}: {Refused: 1},
		{1, 11}: {Refused: 1},
		{1, 14}: {Refused: 1},
		{2, 10}: {Refused: 1},
		{2, 11}: {Refused: 1},
		{2, 14}: {Refused: 1},
		{3, 0}:  {Free: 1},
		{4, 0}:  {Waits: 1},
		{5, 12}: {Left: 1},
		{5, 13}: {Left: 1},
		{6, 0}:  {Back: 1},
		{6, 12}: {Back: 1},
		{6, 13}: {Back: 1},
		{7, 0}:  {Woken: 1},
		{10, 0}: {Hashes: 1},
	}[commit{kind, err}]
}

// P27.1: each kind with each error, such as there are not, too.
func TestEachKindAndError(t *testing.T) {
	var numbers []int
	for n := range 20 {
		numbers = append(numbers, n)
	}
	numbers = append(append(numbers, 1<<32+1, 1<<32+6, 9+1<<32), extremes...)
	for _, kind := range numbers {
		for _, err := range numbers {
			log := []ghost.Entry{commit(kind, 0, 0, api.Errno(err))}
			want := one(kind, api.Errno(err))
			if of, total := stat.Of(log, 0), stat.Total(log); of != want || total != want {
				t.Errorf("of the kind %d and the error %d Of is %+v, Total %+v", kind, err, of, total)
			}
			countsHold(t, slices.Concat(commits(t, "0 enter 0; 0 enter 0"), log, commits(t, "0 enter 0; 0 exit 0; 0 exit 0; 0 exit 0")))
			countsHold(t, slices.Concat(commits(t, "0 enter 0; 0 enter 0; 0 begin 0"), log, commits(t, "0 enter 0; 0 end 0; 0 exit 0; 0 exit 0; 0 exit 0")))
		}
	}
}

// P27.1: all logs of few commits, of Enters, Exits, Begins and Ends of two threads.
func TestAllLogsOfFewCommits(t *testing.T) {
	var each []ghost.Entry
	for _, kind := range []int{model.Enter, model.Exit, model.Begin, model.End} {
		each = append(each, commit(kind, 0, 0, api.OK), commit(kind, 1, 0, api.OK))
	}
	logs := [][]ghost.Entry{nil}
	for range 5 {
		var longer [][]ghost.Entry
		for _, l := range logs {
			for _, e := range each {
				longer = append(longer, append(slices.Clone(l), e))
			}
		}
		logs = longer
		for _, l := range logs {
			if got, want := stat.Of(l, 0), reckoned(l, 0); got != want {
				t.Fatalf("Of is %+v, not %+v, of\n%s", got, want, text(l))
			}
		}
	}
}

// P27.1: one that is owned very often, and waits, and is let go.
func TestOwnedOften(t *testing.T) {
	var log []ghost.Entry
	for range 5000 {
		log = append(log, commit(model.Enter, 3, 2, api.OK))
	}
	log = append(log, commit(model.Begin, 3, 2, api.OK), commit(model.Enter, 0, 2, api.OK), commit(model.Exit, 0, 2, api.OK), commit(model.End, 3, 2, api.OK))
	for range 5001 {
		log = append(log, commit(model.Exit, 3, 2, api.OK))
	}
	want := stat.Counts{Owned: 2, Again: 4999, Waits: 1, Back: 1, Kept: 4999, Free: 3}
	if of, total := stat.Of(log, 2), stat.Total(log); of != want || total != want {
		t.Errorf("Of is %+v, Total %+v", of, total)
	}
}

// P27.1: objects and threads that there are not: such as a log names count as any other.
func TestCountsOfThingsThatThereAreNot(t *testing.T) {
	log := commits(t, "0 enter 0; 0 enter 0")
	all := append([]int{1, 7, 8, 60, 1 << 16}, extremes...)
	for _, n := range all {
		if got := stat.Of(log, n); got != (stat.Counts{}) {
			t.Errorf("Of %d is %+v", n, got)
		}
	}
	for i, n := range all {
		log = append(log, commit(model.Enter, n, n, api.OK), commit(model.Enter, n, n, api.OK), commit(model.Begin, n, n, api.OK), commit(model.End, n+1, n, api.OK), commit(model.End, n, n, api.ErrTime), commit(model.Exit, n, n, api.OK))
		if got, want := stat.Of(log, n), (stat.Counts{Owned: 1, Again: 1, Waits: 1, Back: 2, Kept: 1}); got != want {
			t.Errorf("Of %d is %+v", n, got)
		}
		many := i + 1
		if got, want := stat.Total(log), (stat.Counts{Owned: 1 + many, Again: 1 + many, Waits: many, Back: 2 * many, Kept: many}); got != want {
			t.Errorf("with %d Total is %+v", n, got)
		}
	}
	countsHold(t, log, 2, -2)
}

// P27.1: each number's sum, and the others as they were.
func TestAdd(t *testing.T) {
	var a, b stat.Counts
	for i, n := range parts(&a) {
		*n = 3*i + 1
	}
	for i, n := range parts(&b) {
		*n = 100 * (i + 1)
	}
	want := stat.Counts{Owned: 101, Again: 204, Refused: 307, Free: 410, Kept: 513, Strange: 616, Waits: 719, Left: 822, Back: 925, Woken: 1028, Hashes: 1131}
	wasA, wasB := a, b
	for range 2 {
		if x, y := stat.Add(a, b), stat.Add(b, a); x != want || y != want {
			t.Errorf("Add is %+v, and %+v", x, y)
		}
	}
	if a != wasA || b != wasB {
		t.Error("Add turned its arguments")
	}
	for i := range parts(&a) {
		var only stat.Counts
		*parts(&only)[i] = 7
		got := stat.Add(a, only)
		*parts(&got)[i] -= 7
		if got != a || stat.Add(stat.Counts{}, only) != only || stat.Add(only, stat.Counts{}) != only {
			t.Errorf("Add of %+v and %+v is %+v", a, only, stat.Add(a, only))
		}
	}
	if got := stat.Add(stat.Counts{}, stat.Counts{}); got != (stat.Counts{}) {
		t.Errorf("Add of none is %+v", got)
	}
}

// P27.1, R2: numbers of the greatest size: a count at its end stays there.
func TestAddOfGreatNumbers(t *testing.T) {
	for _, x := range [][3]int{
		{math.MaxInt, 0, math.MaxInt},
		{math.MaxInt - 1, 1, math.MaxInt},
		{math.MaxInt, 1, math.MaxInt},
		{math.MaxInt - 1, 2, math.MaxInt},
		{math.MaxInt, math.MaxInt, math.MaxInt},
		{1 << 62, 1 << 62, math.MaxInt},
		{1 << 62, 1<<62 - 1, math.MaxInt},
		{1 << 62, 1<<62 - 2, math.MaxInt - 1},
		{math.MaxInt, -1, math.MaxInt - 1},
		{math.MaxInt, math.MinInt, -1},
		{math.MaxInt, -math.MaxInt, 0},
		{math.MinInt, 0, math.MinInt},
		{math.MinInt, 1, math.MinInt + 1},
		{math.MinInt + 1, -1, math.MinInt},
		{math.MinInt, -1, math.MinInt},
		{math.MinInt + 1, -2, math.MinInt},
		{math.MinInt, math.MinInt, math.MinInt},
		{-1 << 62, -1 << 62, math.MinInt},
		{-1 << 62, -1<<62 - 1, math.MinInt},
		{-1, -1, -2},
		{-3, 1, -2},
		{1 << 31, 1 << 31, 1 << 32},
	} {
		for i := range 11 {
			var a, b, want stat.Counts
			*parts(&a)[i], *parts(&b)[i], *parts(&want)[i] = x[0], x[1], x[2]
			if p, q := stat.Add(a, b), stat.Add(b, a); p != want || q != want {
				t.Errorf("Add of %+v and %+v is %+v, and %+v", a, b, p, q)
			}
		}
	}
}
