package stat_test

import (
	"math"
	"slices"
	"testing"

	"futtock/api"
	"futtock/ghost"
	"futtock/model"
	"futtock/stat"
)

// P27.2: what courses come to, written out: the spans of the threads 0 and 1, and the
// longest one.
func TestSpans(t *testing.T) {
	for _, x := range []struct {
		log          string
		zero, one    []int
		thread, most int
	}{
		{"", nil, nil, -1, 0},
		{"0( 0)", []int{2}, nil, 0, 2},
		{"0( 0. 0)", []int{3}, nil, 0, 3},
		{"1( 1. 1. 1)", nil, []int{4}, 1, 4},
		// Others' entries, and such of no kind, count between them.
		{"0( 1( 0. 1. 1) 0)", []int{6}, []int{4}, 0, 6},
		{"0( 1( 0) 1)", []int{3}, []int{3}, 0, 3},
		{"1( 0( 1) 0)", []int{3}, []int{3}, 1, 3},
		{"0( 0? 7? 9. 0)", []int{5}, nil, 0, 5},
		{"5. 6( 0( 0) 6)", []int{2}, nil, 6, 4},
		// In order, several.
		{"0( 0) 0( 0. 0) 0( 0. 0. 0) 0( 0)", []int{2, 3, 4, 2}, nil, 0, 4},
		{"0( 0. 0) 1( 0( 0. 0. 1. 1) 0)", []int{3, 6}, []int{6}, 1, 6},
		// Some that did not return.
		{"0( 0.", nil, nil, -1, 0},
		{"0( 0) 0( 0.", []int{2}, nil, 0, 2},
		{"0( 1( 1. 1)", nil, []int{3}, 1, 3},
		// A Return without a Call ahead of it.
		{"0)", nil, nil, -1, 0},
		{"0) 0) 0( 0)", []int{2}, nil, 0, 2},
		{"0( 0) 0)", []int{2}, nil, 0, 2},
		{"0( 0) 0. 0) 0( 0. 0) 0)", []int{2, 3}, nil, 0, 3},
		{"1( 0) 1)", nil, []int{3}, 1, 3},
		{"0( 1) 0)", []int{3}, nil, 0, 3},
		// A Call behind a Call begins anew.
		{"0( 0( 0)", []int{2}, nil, 0, 2},
		{"0( 0. 0. 0. 0( 0. 0)", []int{3}, nil, 0, 3},
		{"0( 0( 0) 0)", []int{2}, nil, 0, 2},
		{"0( 1( 0( 1( 0) 1)", []int{3}, []int{3}, 0, 3},
		// Of like ones that which returned first.
		{"0( 0. 0) 1( 1. 1)", []int{3}, []int{3}, 0, 3},
		{"1( 1. 1) 0( 0. 0)", []int{3}, []int{3}, 1, 3},
		{"1( 1) 1( 1. 1) 0( 0. 0)", []int{3}, []int{2, 3}, 1, 3},
		{"0( 0. 0) 1( 1. 1. 1)", []int{3}, []int{4}, 1, 4},
	} {
		log := course(t, x.log)
		for thread, want := range [][]int{x.zero, x.one, nil} {
			if got := stat.Spans(log, thread); !slices.Equal(got, want) {
				t.Errorf("%q: Spans of %d are %v", x.log, thread, got)
			}
		}
		if thread, most := stat.Longest(log); thread != x.thread || most != x.most {
			t.Errorf("%q: Longest is %d, %d", x.log, thread, most)
		}
		spansHold(t, log, 0, 1, 2, 5, 6)
	}
}

// P27.2: of Calls and Returns their threads alone count: other numbers, operations, and
// what was told, play no part.
func TestSpansByThreadsAlone(t *testing.T) {
	log := course(t, "0( 1( 0. 0) 1. 0( 1) 0. 0. 0)")
	for i := range log {
		log[i].Number, log[i].Op, log[i].Value, log[i].Err = 9-i, api.Op{Kind: i, Obj: -1}, -i, api.Errno(i)
		log[i].Event.Thread, log[i].Event.Kind = 3+i, model.Enter
	}
	if got := stat.Spans(log, 0); !slices.Equal(got, []int{4, 5}) {
		t.Errorf("Spans of 0 are %v", got)
	}
	if got := stat.Spans(log, 1); !slices.Equal(got, []int{6}) {
		t.Errorf("Spans of 1 are %v", got)
	}
	if thread, most := stat.Longest(log); thread != 1 || most != 6 {
		t.Errorf("Longest is %d, %d", thread, most)
	}
	spansHold(t, log, 3, 4, 12)
}

// P27.2: all courses of few entries of two threads.
func TestAllCoursesOfFewEntries(t *testing.T) {
	each := course(t, "0( 0) 0. 1( 1) 0?")
	logs := [][]ghost.Entry{nil}
	for range 6 {
		var longer [][]ghost.Entry
		for _, l := range logs {
			for _, e := range each {
				longer = append(longer, append(slices.Clone(l), e))
			}
		}
		logs = longer
		for _, l := range logs {
			spansHold(t, l, 0, 1)
		}
	}
}

// P27.2: threads 0, 255 and 256, and such as there are not: Longest looks at those from 0
// to 255, Spans at each.
func TestThreadsOfSpans(t *testing.T) {
	span := func(thread, many int) []ghost.Entry {
		l := []ghost.Entry{{Kind: ghost.Call, Thread: thread}}
		for range many - 2 {
			l = append(l, ghost.Entry{Kind: ghost.Commit, Thread: thread})
		}
		return append(l, ghost.Entry{Kind: ghost.Return, Thread: thread})
	}
	for thread := range 256 {
		log := slices.Concat(span(256, 9), span(-1, 8), span(thread, 4), span(257, 7))
		if got, most := stat.Longest(log); got != thread || most != 4 {
			t.Errorf("Longest is %d, %d, not of %d", got, most, thread)
		}
		spansHold(t, log, thread, 256, -1, 257)
	}
	for _, thread := range []int{256, 257, 511, 512, 1 << 16, 1 << 32, 1<<32 + 1, 1<<32 + 255, math.MaxInt, -1, -2, -255, -256, -1 << 32, math.MinInt, math.MinInt + 1} {
		log := span(thread, 5)
		if got, most := stat.Longest(log); got != -1 || most != 0 {
			t.Errorf("of %d Longest is %d, %d", thread, got, most)
		}
		log = slices.Concat(log, span(255, 3), span(0, 2))
		if got, most := stat.Longest(log); got != 255 || most != 3 {
			t.Errorf("with %d Longest is %d, %d", thread, got, most)
		}
		for who, want := range map[int][]int{thread: {5}, 255: {3}, 0: {2}, 1: nil} {
			if got := stat.Spans(log, who); !slices.Equal(got, want) {
				t.Errorf("with %d Spans of %d are %v", thread, who, got)
			}
		}
	}
	// Their entries count between those of others still.
	log := slices.Concat(span(0, 2)[:1], span(256, 5), span(-1, 5), span(0, 2)[1:])
	if got, most := stat.Longest(log); got != 0 || most != 12 {
		t.Errorf("Longest is %d, %d", got, most)
	}
}

// P27.2: threads of which a log has nothing.
func TestSpansOfThreadsThatThereAreNot(t *testing.T) {
	for _, log := range [][]ghost.Entry{nil, {}, course(t, "0( 0. 0) 1( 1)")} {
		for _, thread := range append([]int{2, 7, 8}, extremes...) {
			if got := stat.Spans(log, thread); len(got) != 0 {
				t.Errorf("Spans of %d are %v", thread, got)
			}
		}
	}
	for _, log := range [][]ghost.Entry{nil, {}, course(t, "0. 1. 0? 0) 1( 1. 0( 2( 5)"), {{}}, {{Kind: -1}, {Kind: 4, Thread: 3}}} {
		if thread, most := stat.Longest(log); thread != -1 || most != 0 {
			t.Errorf("Longest is %d, %d", thread, most)
		}
	}
}

// edges are spans at which a box begins or ends, each with its box.
func edges() map[int]int {
	l := map[int]int{1: 0, 2: 1, 3: 1, 4: 2, 1<<17 - 1: 15, 1 << 17: 15, 1<<31 - 1: 15, 1 << 31: 15, 1 << 32: 15, 1<<32 + 1: 15, 1 << 62: 15, math.MaxInt - 1: 15, math.MaxInt: 15}
	for k := 1; k <= 16; k++ {
		l[1<<k-1] = min(k-1, 15)
		l[1<<k] = min(k, 15)
		l[1<<k+1] = min(k, 15)
	}
	return l
}

// P27.2: each edge of a box, alone and together.
func TestBoxes(t *testing.T) {
	var all []int
	var together [16]int
	for span, box := range edges() {
		var want [16]int
		want[box] = 1
		if got := stat.Boxes(span); got != want {
			t.Errorf("Boxes of %d are %v", span, got)
		}
		want[box] = 3
		if got := stat.Boxes(span, span, 0, span); got != want {
			t.Errorf("Boxes of three of %d are %v", span, got)
		}
		all = append(all, span)
		together[box]++
	}
	if got := stat.Boxes(all...); got != together {
		t.Errorf("Boxes of %v are %v", all, got)
	}
	for span := 1; span <= 70000; span++ {
		if got, want := stat.Boxes(span), boxesOf([]int{span}); got != want {
			t.Fatalf("Boxes of %d are %v", span, got)
		}
	}
}

// P27.2: no spans, and such as are let go.
func TestBoxesOfNoSpans(t *testing.T) {
	if got := stat.Boxes(); got != ([16]int{}) {
		t.Errorf("Boxes are %v", got)
	}
	if got := stat.Boxes([]int{}...); got != ([16]int{}) {
		t.Errorf("Boxes are %v", got)
	}
	for _, span := range []int{0, -1, -2, -3, -4, -65536, -1 << 32, math.MinInt, math.MinInt + 1, -math.MaxInt + 1} {
		if got := stat.Boxes(span); got != ([16]int{}) {
			t.Errorf("Boxes of %d are %v", span, got)
		}
		if got := stat.Boxes(span, 1, span, 65535, span); got != ([16]int{0: 1, 15: 1}) {
			t.Errorf("Boxes with %d are %v", span, got)
		}
	}
}

// P27.2: many spans, of each box another number.
func TestBoxesOfManySpans(t *testing.T) {
	var spans []int
	var want [16]int
	for box := range want {
		for i := range 100 * (box + 1) {
			spans = append(spans, 1<<box+i%(1<<box))
			want[box]++
		}
	}
	if got := stat.Boxes(spans...); got != want {
		t.Errorf("Boxes are %v", got)
	}
	n := numbers(3)
	for i := range spans {
		k := n.below(i + 1)
		spans[i], spans[k] = spans[k], spans[i]
	}
	was := slices.Clone(spans)
	if got := stat.Boxes(spans...); got != want || !slices.Equal(was, spans) {
		t.Errorf("Boxes are %v", got)
	}
}

// P27.2: logs with a span of each such length, that is told, goes into its box, and is the
// longest one.
func TestSpansOfEachLength(t *testing.T) {
	long := make([]ghost.Entry, 70000)
	for i := range long {
		long[i] = commit(model.Holds, 1, 0, api.OK)
	}
	for span, box := range edges() {
		if span < 2 || span > len(long) {
			continue
		}
		log := slices.Clone(long[:span])
		log[0] = ghost.Entry{Kind: ghost.Call, Thread: 4}
		log[span-1] = ghost.Entry{Kind: ghost.Return, Thread: 4}
		log = append(log, course(t, "5( 5)")...)
		spans := stat.Spans(log, 4)
		if !slices.Equal(spans, []int{span}) {
			t.Errorf("Spans are %v, not %d", spans, span)
		}
		var want [16]int
		want[box] = 1
		if got := stat.Boxes(spans...); got != want {
			t.Errorf("Boxes of %v are %v", spans, got)
		}
		if thread, most := stat.Longest(log); thread != 4 || most != span {
			t.Errorf("Longest is %d, %d, not %d", thread, most, span)
		}
	}
}

// P27.2, R4: what was answered is the caller's: turned, it turns no later answer, and no
// list that was handed in is written into, or behind its end.
func TestAnswersAreTheCallers(t *testing.T) {
	log := course(t, "0( 0) 0( 0. 0) 1( 0( 1. 1) 0. 0) 0.")
	behind := ghost.Entry{Kind: 77, Thread: 77}
	room := append(slices.Grow(slices.Clone(log), 9), behind)[:len(log)]
	want := []int{2, 3, 5}
	for range 3 {
		got := stat.Spans(room, 0)
		if !slices.Equal(got, want) {
			t.Fatalf("Spans are %v", got)
		}
		other := stat.Spans(room, 0)
		got[0], got[1] = 99, -99
		_ = append(got, 5, 5, 5)
		if !slices.Equal(other, want) {
			t.Fatalf("another answer is %v", other)
		}
		boxes := stat.Boxes(other...)
		boxes[1] = 50
		if again := stat.Boxes(other...); again != ([16]int{1: 2, 2: 1}) {
			t.Fatalf("Boxes are %v", again)
		}
		few := append(slices.Grow(slices.Clone(other), 4), 7)[:3]
		if stat.Boxes(few...) != stat.Boxes(few...) || !slices.Equal(few[:4], []int{2, 3, 5, 7}) {
			t.Fatalf("Boxes wrote: %v", few[:4])
		}
		stat.Of(room, 0)
		stat.Total(room)
		stat.Longest(room)
	}
	if !slices.Equal(room, log) || room[:len(log)+1][len(log)] != behind {
		t.Error("a log was written into")
	}
	clear(room)
	if got := stat.Spans(log, 0); !slices.Equal(got, want) {
		t.Errorf("Spans are %v", got)
	}
}
