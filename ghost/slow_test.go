package ghost_test

import (
	"math"
	"regexp"
	"slices"
	"strconv"
	"strings"
	"testing"

	"futtock/api"
	"futtock/ghost"
	"futtock/model"
)

// The kinds of operations, as the document numbers them.
const (
	enter     = 1
	try       = 2
	exit      = 3
	wait      = 4
	notify    = 5
	all       = 6
	hash      = 7
	holds     = 8
	interrupt = 9
)

// world is what a log is made of.
type world struct{ threads, objects, most int }

// letters are those of the kinds of transitions; a Begin that is OK is a small one.
const letters = "?ETXBLDWNAHOI"

// shape is what the letters of an operation's commits are: of a whole one, and of
// one that lacks its end.
type shape struct{ whole, part *regexp.Regexp }

func shaped(whole, part string) shape {
	return shape{regexp.MustCompile("^(" + whole + ")$"), regexp.MustCompile("^(" + part + ")$")}
}

var shapes = map[int]shape{
	enter:     shaped("E", "E?"),
	try:       shaped("T", "T?"),
	exit:      shaped("X", "X?"),
	wait:      shaped("B|bL?D", "B?|bL?D?"),
	notify:    shaped("W?N", "W?N?"),
	all:       shaped("W*A", "W*A?"),
	hash:      shaped("H", "H?"),
	holds:     shaped("O", "O?"),
	interrupt: shaped("I", "I?"),
}

// has tells whether there is such an operation.
func (w world) has(o api.Op) bool {
	least, most := 0, 0
	switch o.Kind {
	case wait:
		most = math.MaxInt
	case interrupt:
		most = w.threads - 1
	}
	_, ok := shapes[o.Kind]
	return ok && o.Obj >= 0 && o.Obj < w.objects && o.Arg >= least && o.Arg <= most
}

// isRight tells whether entries are right together, by what the document says of
// all of them at once: thread by thread, and the model behind that.
func (w world) isRight(l []ghost.Entry) bool {
	for _, e := range l {
		if e.Thread < 0 || e.Thread >= w.threads || !hasItsFieldsAlone(e) {
			return false
		}
	}
	for thread := range w.threads {
		parts := operations(l, thread)
		for i, part := range parts {
			returned := part[len(part)-1].Kind == ghost.Return
			if !w.isOperation(i, part) || !returned && i < len(parts)-1 {
				return false
			}
		}
	}
	return w.behind(l) != nil
}

// hasItsFieldsAlone tells whether what should be 0 in an entry is.
func hasItsFieldsAlone(e ghost.Entry) bool {
	was := e
	switch e.Kind {
	case ghost.Call:
		e.Event, e.Value, e.Err = model.Event{}, 0, 0
	case ghost.Commit:
		e.Number, e.Op, e.Value, e.Err = 0, api.Op{}, 0, 0
		e.Thread = e.Event.Thread
	case ghost.Return:
		e.Op, e.Event = api.Op{}, model.Event{}
	default:
		return false
	}
	return e == was
}

// operations are a thread's entries, cut ahead of each Call.
func operations(l []ghost.Entry, thread int) [][]ghost.Entry {
	own := make([]ghost.Entry, 0, len(l))
	var cuts []int
	for _, e := range l {
		if e.Thread != thread {
			continue
		}
		if e.Kind == ghost.Call || len(own) == 0 {
			cuts = append(cuts, len(own))
		}
		own = append(own, e)
	}
	var parts [][]ghost.Entry
	for i, from := range cuts {
		parts = append(parts, own[from:append(cuts, len(own))[i+1]])
	}
	return parts
}

// isOperation tells whether a thread's entries are those of one operation of that
// number, or a beginning of them.
func (w world) isOperation(number int, part []ghost.Entry) bool {
	if part[0].Kind != ghost.Call || part[0].Number != number || !w.has(part[0].Op) {
		return false
	}
	o, commits, last := part[0].Op, part[1:], part[len(part)-1]
	returned := last.Kind == ghost.Return
	if returned {
		commits = part[1 : len(part)-1]
	}
	for _, e := range commits {
		if e.Kind != ghost.Commit || !isOf(o, e.Event) {
			return false
		}
	}
	word := spelt(commits)
	if !shapes[o.Kind].part.MatchString(word) || !tellsWhomItWoke(commits) {
		return false
	}
	if !returned {
		return true
	}
	if !shapes[o.Kind].whole.MatchString(word) {
		return false
	}
	value, err := told(o, commits)
	return last.Number == number && last.Value == value && last.Err == err
}

// isOf tells whether a transition's object, and of an Interrupt its Arg, are the
// operation's.
func isOf(o api.Op, e model.Event) bool {
	if o.Kind == interrupt {
		return e.Obj == 0 && e.Arg == o.Arg
	}
	return e.Obj == o.Obj
}

// spelt is the word of commits.
func spelt(commits []ghost.Entry) string {
	var b strings.Builder
	for _, e := range commits {
		letter := byte('?')
		if e.Event.Kind > 0 && e.Event.Kind < len(letters) {
			letter = letters[e.Event.Kind]
		}
		if letter == 'B' && e.Event.Err == api.OK {
			letter = 'b'
		}
		b.WriteByte(letter)
	}
	return b.String()
}

// woken are the threads that commits woke.
func woken(commits []ghost.Entry) []int {
	var l []int
	for _, e := range commits {
		if e.Event.Kind == model.Wake {
			l = append(l, e.Event.Arg)
		}
	}
	return l
}

// tellsWhomItWoke tells whether a Notify among commits, if there is one, tells that.
func tellsWhomItWoke(commits []ghost.Entry) bool {
	for _, e := range commits {
		if e.Event.Kind == model.Notify && !slices.Equal(append(woken(commits), -1)[:1], []int{e.Event.Arg}) {
			return false
		}
	}
	return true
}

// told is what an operation tells by its commits.
func told(o api.Op, commits []ghost.Entry) (int, api.Errno) {
	last := commits[len(commits)-1].Event
	switch {
	case o.Kind == notify && last.Err != api.OK:
		return -1, last.Err
	case last.Err != api.OK:
		return 0, last.Err
	case o.Kind == notify:
		return append(woken(commits), -1)[0], api.OK
	case o.Kind == all:
		return len(woken(commits)), api.OK
	case o.Kind == hash, o.Kind == holds:
		return last.Arg, api.OK
	}
	return 0, api.OK
}

// behind is the model behind all commits of entries: nil, if it does not take them.
func (w world) behind(l []ghost.Entry) *model.Model {
	m, _ := model.New(w.threads, w.objects, w.most)
	for _, e := range l {
		if e.Kind == ghost.Commit && m.Apply(e.Event) != api.OK {
			return nil
		}
	}
	return m
}

// made is an empty log.
func (w world) made(t *testing.T) *ghost.Log {
	t.Helper()
	l, err := ghost.New(w.threads, w.objects, w.most)
	if l == nil || err != api.OK {
		t.Fatalf("New(%v) is %v, %d", w, l, err)
	}
	return l
}

// log is a log of entries that are right.
func (w world) log(t *testing.T, entries []ghost.Entry) *ghost.Log {
	t.Helper()
	l := w.made(t)
	for i, e := range entries {
		if err := l.Add(e); err != api.OK {
			t.Fatalf("of %s Add of %s is %d", lines(entries[:i]), line(e), err)
		}
	}
	return l
}

// shows tells of what a log of entries should show and doesn't, asked twice.
func (w world) shows(t *testing.T, l *ghost.Log, entries []ghost.Entry) {
	t.Helper()
	for range 2 {
		if n := l.Len(); n != len(entries) {
			t.Fatalf("Len is %d, not %d", n, len(entries))
		}
		if got := l.All(); !slices.Equal(got, entries) {
			t.Fatalf("All are %s, not %s", lines(got), lines(entries))
		}
		m := l.Model()
		if m == nil || !m.Same(w.behind(entries)) {
			t.Fatalf("behind %s the model is another one", lines(entries))
		}
		for thread := -1; thread <= w.threads; thread++ {
			want, called := api.Op{}, false
			if parts := operations(entries, thread); len(parts) > 0 {
				last := parts[len(parts)-1]
				if last[len(last)-1].Kind != ghost.Return {
					want, called = last[0].Op, true
				}
			}
			if o, ok := l.Open(thread); o != want || ok != called {
				t.Fatalf("behind %s Open(%d) is %v, %v, not %v, %v", lines(entries), thread, o, ok, want, called)
			}
		}
	}
}

// added adds an entry to a log of entries, and tells its entries behind that; that
// it shows them is for who calls.
func (w world) added(t *testing.T, l *ghost.Log, entries []ghost.Entry, e ghost.Entry) ([]ghost.Entry, bool) {
	t.Helper()
	longer := append(slices.Clip(entries), e)
	ok := w.isRight(longer)
	want := api.ErrBroken
	if ok {
		want = api.OK
	}
	if err := l.Add(e); err != want {
		t.Fatalf("of %s Add of %s is %d, not %d", lines(entries), line(e), err, want)
	}
	if !ok {
		longer = entries
	}
	return longer, ok
}

// The words of entries' texts.
var (
	opWords    = strings.Fields("none enter try exit wait notify all hash holds interrupt")
	eventWords = strings.Fields("none enter try exit begin leave end wake notify all hash holds interrupt")
	errWords   = strings.Fields("ok arg nil form end many none there full state over out intr time busy broken")
)

// entry is of a text behind other entries: a thread; then of a Call `call`, its
// operation's word, object and Arg; of a Commit its transition's word, object, Arg
// and error; of a Return `return`, its value and error. An Arg and a value of 0 and
// the error ok may lack, and numbers are the next ones, but where # and another one
// stand.
func entry(t *testing.T, ahead []ghost.Entry, text string) ghost.Entry {
	t.Helper()
	parts := strings.Fields(text)
	if len(parts) < 2 {
		t.Fatalf("%q is no entry", text)
	}
	e := ghost.Entry{Thread: number(t, parts[0])}
	next := len(operations(ahead, e.Thread))
	switch {
	case parts[1] == "call":
		e.Kind, e.Number = ghost.Call, next
		e.Op.Kind, e.Op.Obj = slices.Index(opWords, parts[2]), number(t, parts[3])
		e.Number = rest(t, parts[4:], e.Number, &e.Op.Arg, nil)
	case parts[1] == "return":
		e.Kind, e.Number = ghost.Return, next-1
		e.Number = rest(t, parts[2:], e.Number, &e.Value, &e.Err)
	default:
		e.Kind, e.Event = ghost.Commit, model.Event{Kind: slices.Index(eventWords, parts[1]), Thread: e.Thread, Obj: number(t, parts[2])}
		e.Number = rest(t, parts[3:], 0, &e.Event.Arg, &e.Event.Err)
	}
	if e.Op.Kind < 0 || e.Event.Kind < 0 {
		t.Fatalf("%q has no kind", text)
	}
	return e
}

// rest reads what may lack at an entry's end, and tells its number.
func rest(t *testing.T, parts []string, next int, n *int, err *api.Errno) int {
	t.Helper()
	for _, part := range parts {
		at := slices.Index(errWords, part)
		if digits, ok := strings.CutPrefix(part, "#"); ok {
			next = number(t, digits)
		} else if at >= 0 && err != nil {
			*err = api.Errno(at)
		} else {
			*n = number(t, part)
		}
	}
	return next
}

func number(t *testing.T, digits string) int {
	t.Helper()
	n, err := strconv.Atoi(digits)
	if err != nil {
		t.Fatalf("%q is no number", digits)
	}
	return n
}

// entries are of texts with `;` between, behind others.
func entries(t *testing.T, text string) []ghost.Entry {
	t.Helper()
	var l []ghost.Entry
	for part := range strings.SplitSeq(text, ";") {
		if strings.TrimSpace(part) != "" {
			l = append(l, entry(t, l, part))
		}
	}
	return l
}

// line is an entry's text with all its numbers.
func line(e ghost.Entry) string {
	n := strconv.Itoa
	list := func(l ...int) string {
		var parts []string
		for _, x := range l {
			parts = append(parts, n(x))
		}
		return strings.Join(parts, " ")
	}
	return "{" + list(e.Kind, e.Thread, e.Number) + ", op " + list(e.Op.Kind, e.Op.Obj, e.Op.Arg) +
		", event " + list(e.Event.Kind, e.Event.Thread, e.Event.Obj, e.Event.Arg, int(e.Event.Err)) + ", told " + list(e.Value, int(e.Err)) + "}"
}

func lines(l []ghost.Entry) string {
	var parts []string
	for _, e := range l {
		parts = append(parts, line(e))
	}
	return "[" + strings.Join(parts, " ") + "]"
}
