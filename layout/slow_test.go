package layout_test

import (
	"testing"

	"futtock/layout"
)

// thing is what a cell is of: its kind, i and k.
type thing struct{ kind, i, k int }

// many is how many there are of what a kind's i is a number of, and of its k.
func many(kind int) (int, int) {
	switch kind {
	case layout.Header, layout.State, layout.Next:
		return 8, 1
	case layout.Proto:
		return 4, 1
	case layout.Lock, layout.Disp:
		return 16, 1
	case layout.Saved:
		return 8, 8
	}
	return 0, 0
}

// slowAt is what At should answer, by the words of the document.
func slowAt(kind, i, k int) int {
	if things, each := many(kind); i < 0 || i >= things || kind == layout.Saved && (k < 0 || k >= each) {
		return -1
	}
	switch kind {
	case layout.Header:
		return i
	case layout.Proto:
		return 8 + i
	case layout.Lock:
		return 16 + i
	case layout.Disp:
		return 32 + i
	case layout.State:
		return 48 + i
	case layout.Next:
		return 56 + i
	}
	return 64 + 8*i + k
}

// slowWhat is what What should answer, by the ends of what stands in memory.
func slowWhat(a int) thing {
	switch {
	case a < 0:
		return thing{}
	case a <= 7:
		return thing{layout.Header, a, 0}
	case a <= 11:
		return thing{layout.Proto, a - 8, 0}
	case a <= 15:
		return thing{}
	case a <= 31:
		return thing{layout.Lock, a - 16, 0}
	case a <= 47:
		return thing{layout.Disp, a - 32, 0}
	case a <= 55:
		return thing{layout.State, a - 48, 0}
	case a <= 63:
		return thing{layout.Next, a - 56, 0}
	case a <= 127:
		return thing{layout.Saved, a/8 - 8, a % 8}
	}
	return thing{}
}

// nearer is the nearer one of the numbers that may be.
func nearer(n, most int) int {
	if n < 0 {
		return 0
	}
	if n > most {
		return most
	}
	return n
}

// slowAll is what All should answer: it goes through all cells and asks of each
// whether what it is of is within the numbers.
func slowAll(threads, objects, classes, slots int) []int {
	threads, objects = nearer(threads, 8), nearer(objects, 8)
	classes, slots = nearer(classes, 4), nearer(slots, 16)
	var all []int
	for a := range 128 {
		within := false
		switch x := slowWhat(a); x.kind {
		case layout.Header:
			within = x.i < objects
		case layout.Proto:
			within = x.i < classes
		case layout.Lock, layout.Disp:
			within = x.i < slots
		case layout.State, layout.Next:
			within = x.i < threads
		case layout.Saved:
			within = x.i < threads && x.k < objects
		}
		if within {
			all = append(all, a)
		}
	}
	return all
}

// at tells of an At that is not that cell, now or when asked again.
func at(t *testing.T, kind, i, k, want int) {
	t.Helper()
	for range 2 {
		if a := layout.At(kind, i, k); a != want {
			t.Fatalf("At(%d, %d, %d) is %d, not %d", kind, i, k, a, want)
		}
	}
}

// what tells of a What that is not that.
func what(t *testing.T, a int, want thing) {
	t.Helper()
	for range 2 {
		if kind, i, k := layout.What(a); (thing{kind, i, k}) != want {
			t.Fatalf("What(%d) is %d, %d, %d, not %v", a, kind, i, k, want)
		}
	}
}
