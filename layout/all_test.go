package layout_test

import (
	"math"
	"slices"
	"testing"

	"futtock/layout"
)

// counts are numbers for All.
type counts struct{ threads, objects, classes, slots int }

func (c counts) all() []int { return layout.All(c.threads, c.objects, c.classes, c.slots) }

// agrees tells of an All that is not what the second reckoning tells.
func agrees(t *testing.T, c counts) []int {
	t.Helper()
	want := slowAll(c.threads, c.objects, c.classes, c.slots)
	for range 2 {
		if got := c.all(); !slices.Equal(got, want) {
			t.Fatalf("All of %+v is %v, not %v", c, got, want)
		}
	}
	return want
}

// upTo are the numbers from one to one below another.
func upTo(begin, end int) []int {
	var l []int
	for a := begin; a < end; a++ {
		l = append(l, a)
	}
	return l
}

// P20.2: lists that are written out: of none, of one of each, of some, of one
// number alone, of as many as there are.
func TestAllWrittenOut(t *testing.T) {
	most := append(upTo(0, 12), upTo(16, 128)...)
	for _, x := range []struct {
		c    counts
		want []int
	}{
		{counts{}, nil},
		{counts{1, 1, 1, 1}, []int{0, 8, 16, 32, 48, 56, 64}},
		{counts{2, 1, 1, 1}, []int{0, 8, 16, 32, 48, 49, 56, 57, 64, 72}},
		{counts{1, 2, 1, 1}, []int{0, 1, 8, 16, 32, 48, 56, 64, 65}},
		{counts{3, 2, 2, 1}, []int{0, 1, 8, 9, 16, 32, 48, 49, 50, 56, 57, 58, 64, 65, 72, 73, 80, 81}},
		{counts{2, 3, 1, 2}, []int{0, 1, 2, 8, 16, 17, 32, 33, 48, 49, 56, 57, 64, 65, 66, 72, 73, 74}},
		{counts{threads: 3}, []int{48, 49, 50, 56, 57, 58}},
		{counts{objects: 3}, []int{0, 1, 2}},
		{counts{classes: 3}, []int{8, 9, 10}},
		{counts{slots: 3}, []int{16, 17, 18, 32, 33, 34}},
		{counts{threads: 8}, upTo(48, 64)},
		{counts{objects: 8}, upTo(0, 8)},
		{counts{classes: 4}, upTo(8, 12)},
		{counts{slots: 16}, upTo(16, 48)},
		{counts{threads: 1, objects: 8}, append(upTo(0, 8), 48, 56, 64, 65, 66, 67, 68, 69, 70, 71)},
		{counts{threads: 8, objects: 1}, slices.Concat([]int{0}, upTo(48, 65), []int{72, 80, 88, 96, 104, 112, 120})},
		{counts{8, 8, 4, 16}, most},
		{counts{9, 9, 5, 17}, most},
		{counts{100, 100, 100, 100}, most},
		{counts{math.MaxInt, math.MaxInt, math.MaxInt, math.MaxInt}, most},
		{counts{-1, -1, -1, -1}, nil},
		{counts{math.MinInt, math.MinInt, math.MinInt, math.MinInt}, nil},
		{counts{-1, 2, 9, -5}, []int{0, 1, 8, 9, 10, 11}},
	} {
		if got := agrees(t, x.c); !slices.Equal(got, x.want) {
			t.Errorf("All of %+v is %v, not %v", x.c, got, x.want)
		}
	}
}

// P20.2: all numbers that may be, and one more and one less of each: the second
// reckoning; they rise, and each is of something.
func TestAllOfAll(t *testing.T) {
	for threads := -1; threads <= 9; threads++ {
		for objects := -1; objects <= 9; objects++ {
			for classes := -1; classes <= 5; classes++ {
				for slots := -1; slots <= 17; slots++ {
					rise(t, agrees(t, counts{threads, objects, classes, slots}))
				}
			}
		}
	}
}

// rise tells of cells that do not rise, or are nothing's.
func rise(t *testing.T, all []int) {
	t.Helper()
	for i, a := range all {
		if kind, _, _ := layout.What(a); kind == 0 || i > 0 && all[i-1] >= a {
			t.Fatalf("%v has %d", all, a)
		}
	}
}

// P20.2: just the cells that At tells of what is within the numbers.
func TestAllIsWhatAtTells(t *testing.T) {
	for _, c := range []counts{{1, 1, 1, 1}, {2, 3, 1, 4}, {8, 1, 4, 1}, {1, 8, 1, 16}, {7, 7, 3, 15}, {8, 8, 4, 16}, {0, 8, 0, 5}, {5, 0, 2, 0}} {
		var want []int
		add := func(kind, i, k int) { want = append(want, layout.At(kind, i, k)) }
		for i := range c.objects {
			add(layout.Header, i, 0)
		}
		for i := range c.classes {
			add(layout.Proto, i, 0)
		}
		for i := range c.slots {
			add(layout.Lock, i, 0)
			add(layout.Disp, i, 0)
		}
		for i := range c.threads {
			add(layout.State, i, 0)
			add(layout.Next, i, 0)
			for k := range c.objects {
				add(layout.Saved, i, k)
			}
		}
		slices.Sort(want)
		if got := agrees(t, c); !slices.Equal(got, want) {
			t.Errorf("All of %+v is %v, not %v", c, got, want)
		}
	}
}

// P20.2: of one more of anything there are all cells of fewer, and more, as long
// as there are so many; how many more is written out.
func TestMoreHaveAllOfFewer(t *testing.T) {
	for threads := range 9 {
		for objects := range 9 {
			for classes := range 5 {
				for slots := range 17 {
					few := counts{threads, objects, classes, slots}
					grows(t, few, counts{threads + 1, objects, classes, slots}, threads < 8, 2+objects)
					grows(t, few, counts{threads, objects + 1, classes, slots}, objects < 8, 1+threads)
					grows(t, few, counts{threads, objects, classes + 1, slots}, classes < 4, 1)
					grows(t, few, counts{threads, objects, classes, slots + 1}, slots < 16, 2)
				}
			}
		}
	}
}

// grows tells of an All of more that lacks cells of fewer, or has not so many
// more, or more though there are no more.
func grows(t *testing.T, few, more counts, may bool, by int) {
	t.Helper()
	if !may {
		by = 0
	}
	had, has := few.all(), more.all()
	if len(has) != len(had)+by {
		t.Fatalf("All of %+v has %d, of %+v %d", few, len(had), more, len(has))
	}
	for _, a := range had {
		if _, ok := slices.BinarySearch(has, a); !ok {
			t.Fatalf("All of %+v lacks %d, which that of %+v has", more, a, few)
		}
	}
}

// P20.2, R1: numbers that cannot be are as of the nearer one, each alone and
// together.
func TestNearerOnes(t *testing.T) {
	ends := []int{math.MinInt, math.MinInt + 1, -1 << 32, -1 << 31, -128, -2, -1, 0, 1, 3, 4, 5, 7, 8, 9, 15, 16, 17, 127, 128, 1 << 31, 1 << 32, 1<<32 + 1, math.MaxInt - 1, math.MaxInt}
	for _, threads := range ends {
		for _, objects := range ends {
			for _, classes := range ends {
				for _, slots := range []int{math.MinInt, -1, 0, 1, 15, 16, 17, math.MaxInt} {
					agrees(t, counts{threads, objects, classes, slots})
				}
			}
		}
	}
	for _, n := range ends {
		agrees(t, counts{n, 2, 2, 2})
		agrees(t, counts{2, n, 2, 2})
		agrees(t, counts{2, 2, n, 2})
		agrees(t, counts{2, 2, 2, n})
	}
}

// R4: what was answered is the caller's: to write into it, or behind it, turns no
// other answer, not one that was told already.
func TestAnswersAreTheCallers(t *testing.T) {
	for _, c := range []counts{{}, {1, 1, 1, 1}, {2, 3, 1, 4}, {8, 8, 4, 16}, {99, 99, 99, 99}} {
		kept, a := c.all(), c.all()
		want := slices.Clone(kept)
		for i := range a {
			a[i] = -77
		}
		_ = append(a[:0], make([]int, layout.Size)...)
		_ = append(a, 1, 2, 3)
		if !slices.Equal(kept, want) {
			t.Fatalf("%v became %v", want, kept)
		}
		agrees(t, c)
		for cell := range layout.Size {
			x := slowWhat(cell)
			what(t, cell, x)
			if x.kind != 0 {
				at(t, x.kind, x.i, x.k, cell)
			}
		}
	}
}
