package stat_test

import (
	"fmt"
	"math"
	"strings"
	"testing"

	"futtock/api"
	"futtock/ghost"
	"futtock/model"
)

// kinds are those of transitions, by their words.
var kinds = map[string]int{
	"enter": model.Enter, "try": model.Try, "exit": model.Exit, "begin": model.Begin, "leave": model.Leave, "end": model.End,
	"wake": model.Wake, "notify": model.Notify, "all": model.All, "hash": model.Hash, "holds": model.Holds, "interrupt": model.Interrupt,
}

// errs are the errors that transitions tell, by their words.
var errs = map[string]api.Errno{
	"": api.OK, "state": api.ErrState, "over": api.ErrOver, "out": api.ErrOut, "intr": api.ErrIntr, "time": api.ErrTime, "busy": api.ErrBusy,
}

// extremes are numbers at which a type, or what there is of something, ends.
var extremes = []int{-1, math.MinInt, math.MinInt + 1, math.MaxInt, math.MaxInt - 1, -1 << 32, 1 << 32, 255, 256}

// commit is a Commit, as a log has it.
func commit(kind, thread, obj int, err api.Errno) ghost.Entry {
	return ghost.Entry{Kind: ghost.Commit, Thread: thread, Event: model.Event{Kind: kind, Thread: thread, Obj: obj, Err: err}}
}

// commits are out of a text of such as "0 enter 1 over", which stand apart by "; ": a
// thread, a kind, an object, an error.
func commits(t testing.TB, text string) []ghost.Entry {
	t.Helper()
	var l []ghost.Entry
	for part := range strings.SplitSeq(text, "; ") {
		var thread, obj int
		var kind, err string
		n, _ := fmt.Sscanf(part, "%d %s %d %s", &thread, &kind, &obj, &err)
		if _, ok := errs[err]; n < 3 || kinds[kind] == 0 || !ok {
			t.Fatalf("%q is no commit", part)
		}
		l = append(l, commit(kinds[kind], thread, obj, errs[err]))
	}
	return l
}

// course is out of a text: "0(" is a Call of the thread 0, "0)" its Return, "0." a Commit
// of it, "0?" an entry of no kind, "*9" are nine Commits of the thread 1000.
func course(t testing.TB, text string) []ghost.Entry {
	t.Helper()
	var l []ghost.Entry
	for part := range strings.FieldsSeq(text) {
		var thread, many int
		var what rune
		if n, _ := fmt.Sscanf(part, "*%d", &many); n == 1 {
			for range many {
				l = append(l, commit(model.Holds, 1000, 0, api.OK))
			}
			continue
		}
		n, _ := fmt.Sscanf(part, "%d%c", &thread, &what)
		kind := map[rune]int{'(': ghost.Call, ')': ghost.Return, '.': ghost.Commit, '?': 0}
		if _, ok := kind[what]; n < 2 || !ok {
			t.Fatalf("%q is no entry", part)
		}
		e := ghost.Entry{Kind: kind[what], Thread: thread}
		if what == '.' {
			e = commit(model.Enter, thread, 0, api.OK)
		}
		l = append(l, e)
	}
	return l
}

// text is a log as a text.
func text(log []ghost.Entry) string {
	var b strings.Builder
	for _, e := range log {
		fmt.Fprintf(&b, "%+v\n", e)
	}
	return b.String()
}
