package stat_test

import (
	"slices"
	"testing"

	"futtock/api"
	"futtock/ghost"
	"futtock/model"
	"futtock/stat"
)

// numbers are of no pattern, and the same ones each time.
type numbers uint64

func (n *numbers) below(end int) int {
	*n = *n*6364136223846793005 + 1442695040888963407
	return int(uint64(*n) >> 33 % uint64(end))
}

// one is one of some numbers.
func (n *numbers) one(l ...int) int { return l[n.below(len(l))] }

// shuffle gives a list another order.
func shuffle[T any](n *numbers, l []T) {
	for i := range l {
		k := n.below(i + 1)
		l[i], l[k] = l[k], l[i]
	}
}

// entry is one of no pattern; mostly such as there may be, of few threads and objects.
func (n *numbers) entry() ghost.Entry {
	e := ghost.Entry{Kind: n.one(1, 2, 2, 2, 2, 2, 2, 3), Thread: n.below(3), Number: n.below(4)}
	if n.below(40) == 0 {
		e.Kind = n.one(append([]int{0, 4}, extremes...)...)
	}
	if n.below(40) == 0 {
		e.Thread = n.one(append([]int{255, 256}, extremes...)...)
	}
	e.Event = model.Event{Kind: n.one(1, 1, 1, 2, 3, 3, 4, 5, 6, 6, 7, 8, 9, 10, 11, 12), Thread: e.Thread, Obj: n.below(2), Arg: n.below(5)}
	e.Event.Err = api.Errno(n.one(0, 0, 0, 0, 0, 0, 0, 9, 10, 11, 12, 13, 14))
	switch n.below(60) {
	case 0:
		e.Event.Kind = n.one(append([]int{0, 13}, extremes...)...)
	case 1:
		e.Event.Err = api.Errno(n.one(append([]int{1, 15, 16}, extremes...)...))
	case 2:
		e.Event.Obj = n.one(append([]int{7, 8}, extremes...)...)
	case 3:
		e.Event.Thread = n.below(3)
	}
	return e
}

// P27.1, P27.2, P27.4: logs of no pattern, such as are not right.
func TestDrawnLogs(t *testing.T) {
	n := numbers(27)
	var all stat.Counts
	many := 0
	for range 6000 {
		var log []ghost.Entry
		for range n.one(1, 3, 10, 30, 100) {
			log = append(log, n.entry())
		}
		countsHold(t, log, append([]int{0, 1, 8}, extremes...)...)
		spansHold(t, log, append([]int{0, 1, 2, 3, 255, 256}, extremes...)...)
		boxesHold(t, log, 0, 1, 2)
		totalHolds(t, &n, log)
		all = stat.Add(all, stat.Total(log))
		many += len(stat.Spans(log, 0))
	}
	for i, part := range parts(&all) {
		if *part < 1000 {
			t.Errorf("the count %d is %d in all: too few to tell", i, *part)
		}
	}
	if many < 1000 {
		t.Errorf("%d spans: too few to tell", many)
	}
}

// P27.4: boxes together have as many as there are spans of 1 and more: of drawn ones.
func TestDrawnSpans(t *testing.T) {
	n := numbers(4)
	for range 3000 {
		var spans []int
		those := 0
		for range n.one(0, 1, 2, 10, 300) {
			span := n.one(n.below(9)-3, 1<<n.below(18)-n.below(3), n.below(1<<20), 1<<(20+n.below(43)), -n.below(1<<31))
			if spans = append(spans, span); span >= 1 {
				those++
			}
		}
		boxes := stat.Boxes(spans...)
		if boxes != boxesOf(spans) {
			t.Fatalf("Boxes of %v are %v", spans, boxes)
		}
		if got := together(boxes); got != those {
			t.Fatalf("Boxes of %v are %v, which are %d, not %d", spans, boxes, got, those)
		}
		shuffle(&n, spans)
		if again := stat.Boxes(spans...); again != boxes {
			t.Fatalf("Boxes of %v are %v, and in another order %v", spans, again, boxes)
		}
	}
}

// together is how many boxes have in all.
func together(boxes [16]int) int {
	many := 0
	for _, n := range boxes {
		many += n
	}
	return many
}

// P27.4: boxesHold tells if the boxes of some threads' spans have not as many as there are
// spans, or not as many as these threads' boxes added.
func boxesHold(t testing.TB, log []ghost.Entry, threads ...int) {
	t.Helper()
	var all []int
	parts := 0
	for _, thread := range threads {
		spans := stat.Spans(log, thread)
		boxes := stat.Boxes(spans...)
		if together(boxes) != len(spans) || slices.ContainsFunc(spans, func(s int) bool { return s < 2 || s > len(log) }) {
			t.Fatalf("Boxes of %v are %v, of\n%s", spans, boxes, text(log))
		}
		parts += together(boxes)
		all = append(all, spans...)
	}
	if got := together(stat.Boxes(all...)); got != parts {
		t.Fatalf("Boxes of %v have %d, not %d", all, got, parts)
	}
}

// P27.5: totalHolds tells if a log's Total is not its objects' counts added, in whatever
// order, and from whichever end.
func totalHolds(t testing.TB, n *numbers, log []ghost.Entry) {
	t.Helper()
	total := stat.Total(log)
	for range 3 {
		objects := objectsOf(log)
		shuffle(n, objects)
		var left, right stat.Counts
		for i := range objects {
			left = stat.Add(left, stat.Of(log, objects[i]))
			right = stat.Add(stat.Of(log, objects[len(objects)-1-i]), right)
		}
		if left != total || right != total {
			t.Fatalf("Total is %+v, the objects %v added %+v, and %+v, of\n%s", total, objects, left, right, text(log))
		}
	}
	if apart := stat.Total(byObjects(log)); apart != total {
		t.Fatalf("Total is %+v, of the same commits object by object %+v, of\n%s", total, apart, text(log))
	}
}

// byObjects is a log's commits, those of one object all ahead of those of the next one.
func byObjects(log []ghost.Entry) []ghost.Entry {
	l := slices.Clone(log)
	slices.SortStableFunc(l, func(a, b ghost.Entry) int {
		switch {
		case a.Event.Obj < b.Event.Obj:
			return -1
		case a.Event.Obj > b.Event.Obj:
			return 1
		}
		return 0
	})
	return l
}

// P27.5: counts of a log's parts do not add up: those of several ones, written out.
func TestPartsDoNotAddUp(t *testing.T) {
	for _, x := range []struct{ first, second string }{
		{"0 enter 0", "0 enter 0"},
		{"0 enter 0; 0 enter 0", "0 exit 0"},
		{"0 enter 0; 0 enter 0; 0 begin 0", "0 end 0; 0 exit 0"},
	} {
		a, b := commits(t, x.first), commits(t, x.second)
		whole := slices.Concat(a, b)
		if got, parts := stat.Of(whole, 0), stat.Add(stat.Of(a, 0), stat.Of(b, 0)); got == parts {
			t.Errorf("%s, %s: the parts add up to %+v", x.first, x.second, got)
		}
		if got, parts := stat.Total(whole), stat.Add(stat.Total(a), stat.Total(b)); got == parts {
			t.Errorf("%s, %s: the parts' totals add up to %+v", x.first, x.second, got)
		}
		countsHold(t, whole, 1)
	}
}

// P27.5: parts of drawn logs: what hangs on the count of owners (Owned and Again, Free and
// Kept) may be one for the other, together they add up, and all others do alone.
func TestDrawnParts(t *testing.T) {
	n := numbers(55)
	other := 0
	for range 4000 {
		var log []ghost.Entry
		for range n.one(2, 5, 20, 60) {
			log = append(log, n.entry())
		}
		at := n.below(len(log) + 1)
		whole, parts := stat.Of(log, 0), stat.Add(stat.Of(log[:at], 0), stat.Of(log[at:], 0))
		if whole != parts {
			other++
		}
		for _, c := range []*stat.Counts{&whole, &parts} {
			c.Owned, c.Again = c.Owned+c.Again, 0
			c.Free, c.Kept = c.Free+c.Kept, 0
		}
		if whole != parts {
			t.Fatalf("Of the first %d and the others is together %+v, not %+v, of\n%s", at, parts, whole, text(log))
		}
	}
	if other < 200 {
		t.Errorf("%d parts did not add up: too few to tell", other)
	}
}
