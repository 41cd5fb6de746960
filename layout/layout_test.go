package layout_test

import (
	"math"
	"testing"

	"futtock/layout"
)

// odd are no numbers of anything.
var odd = []int{-1, -2, -8, -128, 128, 129, 256, 1 << 31, 1 << 32, 1<<32 + 1, -1 << 32, 1<<61 + 1, -1 << 61, 1 << 62, math.MaxInt, math.MaxInt - 1, math.MinInt, math.MinInt + 1}

// P20.1: the kinds' numbers, and how many cells there are.
func TestConstants(t *testing.T) {
	kinds := []int{layout.Header, layout.Proto, layout.Lock, layout.Disp, layout.State, layout.Next, layout.Saved}
	for i, kind := range kinds {
		if kind != i+1 {
			t.Errorf("the kind %d is %d", i+1, kind)
		}
	}
	if layout.Size != 128 {
		t.Errorf("there are %d cells", layout.Size)
	}
}

// P20.1: the first, a middle and the last one of each kind, written out, both
// ways; the first one is the document's example.
func TestEnds(t *testing.T) {
	for _, x := range []struct{ kind, i, k, a int }{
		{layout.Saved, 1, 2, 74},
		{layout.Header, 0, 0, 0},
		{layout.Header, 3, 0, 3},
		{layout.Header, 7, 0, 7},
		{layout.Proto, 0, 0, 8},
		{layout.Proto, 2, 0, 10},
		{layout.Proto, 3, 0, 11},
		{layout.Lock, 0, 0, 16},
		{layout.Lock, 9, 0, 25},
		{layout.Lock, 15, 0, 31},
		{layout.Disp, 0, 0, 32},
		{layout.Disp, 9, 0, 41},
		{layout.Disp, 15, 0, 47},
		{layout.State, 0, 0, 48},
		{layout.State, 4, 0, 52},
		{layout.State, 7, 0, 55},
		{layout.Next, 0, 0, 56},
		{layout.Next, 4, 0, 60},
		{layout.Next, 7, 0, 63},
		{layout.Saved, 0, 0, 64},
		{layout.Saved, 0, 1, 65},
		{layout.Saved, 0, 7, 71},
		{layout.Saved, 1, 0, 72},
		{layout.Saved, 2, 1, 81},
		{layout.Saved, 4, 4, 100},
		{layout.Saved, 7, 0, 120},
		{layout.Saved, 7, 7, 127},
	} {
		at(t, x.kind, x.i, x.k, x.a)
		what(t, x.a, thing{x.kind, x.i, x.k})
	}
}

// P20.1: the word that is saved of each thread and each object.
func TestSaved(t *testing.T) {
	a := 64
	for thread := range 8 {
		for obj := range 8 {
			at(t, layout.Saved, thread, obj, a)
			what(t, a, thing{layout.Saved, thread, obj})
			a++
		}
	}
}

// P20.1: k plays no part, but of Saved.
func TestOtherKindsHaveNoK(t *testing.T) {
	for kind := layout.Header; kind < layout.Saved; kind++ {
		things, _ := many(kind)
		for i := -1; i <= things; i++ {
			want := slowAt(kind, i, 0)
			for k := range 130 {
				at(t, kind, i, k, want)
			}
			for _, k := range odd {
				at(t, kind, i, k, want)
			}
		}
	}
}

// P20.1: one less than the first and one more than the last of each kind, and
// further ones, are none; so are threads and objects of Saved.
func TestBeyondTheEnds(t *testing.T) {
	for kind := layout.Header; kind <= layout.Saved; kind++ {
		things, each := many(kind)
		for _, k := range []int{0, 1, 3, 7} {
			for i := things; i < things+130; i++ {
				at(t, kind, i, k, -1)
			}
			for _, i := range odd {
				at(t, kind, i, k, -1)
				at(t, kind, i, -1, -1)
				at(t, kind, i, math.MinInt, -1)
				at(t, kind, i, math.MaxInt, -1)
			}
		}
		if kind != layout.Saved {
			continue
		}
		for i := range things {
			for k := each; k < each+130; k++ {
				at(t, kind, i, k, -1)
			}
			for _, k := range odd {
				at(t, kind, i, k, -1)
			}
		}
	}
}

// P20.1: kinds that there are not have nothing.
func TestNoSuchKind(t *testing.T) {
	for _, kind := range append([]int{0, 8, 9, 15, 16, 64}, odd...) {
		for i := -2; i < 20; i++ {
			for k := -2; k < 10; k++ {
				at(t, kind, i, k, -1)
			}
		}
		for _, x := range odd {
			at(t, kind, x, 0, -1)
			at(t, kind, 0, x, -1)
			at(t, kind, x, x, -1)
		}
	}
}

// P20.1: At of all that there is, and what lies about it, against the second
// reckoning.
func TestAllAt(t *testing.T) {
	for kind := -2; kind <= 10; kind++ {
		for i := -20; i <= 150; i++ {
			for k := -20; k <= 150; k++ {
				at(t, kind, i, k, slowAt(kind, i, k))
			}
		}
	}
}

// P20.1: What of each cell against the second reckoning.
func TestAllWhat(t *testing.T) {
	for a := -300; a < 600; a++ {
		what(t, a, slowWhat(a))
	}
}

// P20.1: some cells are nothing's, within the memory and out of it.
func TestNothings(t *testing.T) {
	for a := 12; a <= 15; a++ {
		what(t, a, thing{})
	}
	for _, a := range odd {
		what(t, a, thing{})
		for _, near := range []int{a - 1, a + 1} { // of 128 and -1 there are cells that are
			what(t, near, slowWhat(near))
		}
	}
	none := 0
	for a := range layout.Size {
		if kind, _, _ := layout.What(a); kind == 0 {
			none++
		}
	}
	if none != 4 {
		t.Errorf("%d cells are nothing's", none)
	}
}

// P20.3: At leads back to what it was asked of, and no two are at one cell.
func TestAtLeadsBack(t *testing.T) {
	there := map[int]thing{}
	for kind := layout.Header; kind <= layout.Saved; kind++ {
		things, each := many(kind)
		for i := range things {
			for k := range each {
				a := layout.At(kind, i, k)
				x := thing{kind, i, k}
				if y, ok := there[a]; ok || a < 0 || a >= layout.Size {
					t.Fatalf("%v is at %d, as %v", x, a, y)
				}
				there[a] = x
				what(t, a, x)
			}
		}
	}
	if len(there) != 124 {
		t.Errorf("there are %d", len(there))
	}
}

// P20.3: What leads back to the cell, and no two cells are of one thing.
func TestWhatLeadsBack(t *testing.T) {
	cells := map[thing]int{}
	for a := range layout.Size {
		kind, i, k := layout.What(a)
		if kind == 0 {
			continue
		}
		x := thing{kind, i, k}
		if b, ok := cells[x]; ok {
			t.Fatalf("%d and %d are of %v", a, b, x)
		}
		cells[x] = a
		at(t, kind, i, k, a)
	}
	if len(cells) != 124 {
		t.Errorf("there are %d", len(cells))
	}
}
