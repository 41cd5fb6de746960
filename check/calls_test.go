package check_test

import (
	"fmt"
	"slices"
	"strconv"
	"strings"
	"testing"

	"futtock/api"
	"futtock/check"
	"futtock/model"
)

// kindWords and errWords are the words of texts, by their numbers.
var (
	kindWords = []string{"", "enter", "try", "exit", "begin", "leave", "end", "wake", "notify", "all", "hash", "holds", "interrupt"}
	errWords  = []string{"ok", "arg", "nil", "form", "end", "many", "none", "there", "full", "state", "over", "out", "intr", "time", "busy", "broken"}
)

// calls are out of a text, in which they stand apart by semicolons: each its thread, its
// kind, its object, perhaps "#" and its Arg (else -1 of a notify, 0 of the others),
// perhaps its error, and its times: "0 enter 1 over 3..5".
func calls(t testing.TB, text string) []check.Call {
	t.Helper()
	var l []check.Call
	for _, part := range strings.Split(text, ";") {
		if words := strings.Fields(part); len(words) > 0 {
			l = append(l, said(t, words))
		}
	}
	return l
}

// said is a call out of its words.
func said(t testing.TB, words []string) check.Call {
	t.Helper()
	number := func(text string) int {
		n, err := strconv.Atoi(text)
		if err != nil {
			t.Fatalf("%q is no number: %q", text, words)
		}
		return n
	}
	from, to, _ := strings.Cut(words[len(words)-1], "..")
	e := model.Event{Thread: number(words[0]), Kind: slices.Index(kindWords, words[1]), Obj: number(words[2])}
	if e.Kind == model.Notify {
		e.Arg = -1
	}
	for _, w := range words[3 : len(words)-1] {
		if arg, is := strings.CutPrefix(w, "#"); is {
			e.Arg = number(arg)
		} else {
			e.Err = api.Errno(slices.Index(errWords, w))
		}
	}
	if e.Kind < 1 || e.Err < 0 {
		t.Fatalf("%q is no call", words)
	}
	return check.Call{Event: e, From: number(from), To: number(to)}
}

// world is how much a model has of each.
type world struct{ threads, objects, most int }

// greatest is one with as many of each as there may be.
var greatest = world{8, 8, 60}

// can is what Can tells, held against Order, both asked twice.
func can(t testing.TB, w world, l []check.Call) bool {
	t.Helper()
	ok, order := told(t, w, l)
	if again, o := told(t, w, l); again != ok || !slices.Equal(o, order) {
		t.Fatalf("%+v: of %s Can is %v and %v, Order %v and %v", w, texts(l), ok, again, order, o)
	}
	return ok
}

// told is what Can and Order tell of calls that are such: they tell the same.
func told(t testing.TB, w world, l []check.Call) (bool, []int) {
	t.Helper()
	ok, err := check.Can(w.threads, w.objects, w.most, l)
	order, other := check.Order(w.threads, w.objects, w.most, l)
	want := 0
	if ok {
		want = len(l)
	}
	if err != api.OK || other != api.OK || len(order) != want {
		t.Fatalf("%+v: of %s Can is %v, %d, Order %v, %d", w, texts(l), ok, err, order, other)
	}
	return ok, order
}

// refuses tells if Can and Order do not both tell an error, and nothing.
func refuses(t testing.TB, w world, l []check.Call, want api.Errno) {
	t.Helper()
	ok, err := check.Can(w.threads, w.objects, w.most, l)
	order, other := check.Order(w.threads, w.objects, w.most, l)
	if ok || err != want || len(order) != 0 || other != want {
		t.Errorf("%+v: of %s Can is %v, %d, Order %v, %d, not %d", w, texts(l), ok, err, order, other, want)
	}
}

// texts are calls as a text.
func texts(l []check.Call) string {
	text := fmt.Sprint(len(l))
	for _, c := range l {
		text += fmt.Sprintf("; %+v", c)
	}
	return text
}

// at are calls in the order of some places.
func at(l []check.Call, places []int) []check.Call {
	var some []check.Call
	for _, i := range places {
		some = append(some, l[i])
	}
	return some
}
