package ring_test

import (
	"math"
	"slices"
	"testing"

	"futtock/ring"
)

// goes are all pairs of states of which the second one may come of the first.
var goes = [][2]uint64{{0, 1}, {1, 2}, {1, 3}, {1, 4}, {2, 0}, {3, 0}, {4, 0}}

// P13.2: the states' numbers are those that the document tells.
func TestStates(t *testing.T) {
	if l := []uint64{ring.Waiting, ring.Told, ring.Late, ring.Broken}; !slices.Equal(l, []uint64{1, 2, 3, 4}) {
		t.Errorf("the states are %v", l)
	}
}

// P13.2: the document's example.
func TestGoesOfTwo(t *testing.T) {
	if !ring.Goes(1, 2) {
		t.Error("a waiter is not told")
	}
	if ring.Goes(2, 3) {
		t.Error("one that was told is late")
	}
}

// P13.2: of all pairs of few numbers those that the document names may be, and no
// others.
func TestGoesOfAll(t *testing.T) {
	for from := range uint64(70) {
		for to := range uint64(70) {
			want := slices.Contains(goes, [2]uint64{from, to})
			if ok := ring.Goes(from, to); ok != want {
				t.Errorf("Goes(%d, %d) is %v", from, to, ok)
			}
		}
	}
}

// P13.2: numbers that are no states come of none, and none comes of them, though
// they have the lowest bits of one.
func TestGoesOfNoStates(t *testing.T) {
	wrong := []uint64{5, 6, 7, 8, 255, math.MaxUint64, math.MaxUint64 - 1, math.MaxUint64 - 3, math.MaxInt64}
	for at := 3; at < 64; at++ {
		for low := range uint64(5) {
			wrong = append(wrong, 1<<at|low, math.MaxUint64<<at|low)
		}
	}
	for _, a := range wrong {
		for b := range uint64(5) {
			if ring.Goes(a, b) || ring.Goes(b, a) {
				t.Errorf("Goes of %d and %d is true", a, b)
			}
		}
		for _, b := range wrong {
			if ring.Goes(a, b) {
				t.Errorf("Goes(%d, %d) is true", a, b)
			}
		}
	}
}

// leaves is how often a way of so many states, from one of them on, leaves
// Waiting ahead of its being 0 again: the least and the greatest number of all
// such ways, and how many there are.
func leaves(from uint64, steps int) (least, most, ways int) {
	if from == 0 {
		return 0, 0, 1
	}
	least = math.MaxInt
	if steps == 0 {
		return least, 0, 0
	}
	for to := range uint64(8) {
		if !ring.Goes(from, to) {
			continue
		}
		a, b, n := leaves(to, steps-1)
		if n == 0 {
			continue
		}
		if from == ring.Waiting {
			a, b = a+1, b+1
		}
		least, most, ways = min(least, a), max(most, b), ways+n
	}
	return least, most, ways
}

// P13.3: a waiter leaves its state Waiting once, on each of its ways, and is told,
// late or broken by it.
func TestLeavesWaitingOnce(t *testing.T) {
	least, most, ways := leaves(ring.Waiting, 8)
	if least != 1 || most != 1 || ways != 3 {
		t.Errorf("on %d ways Waiting is left %d to %d times", ways, least, most)
	}
	for end := range uint64(8) {
		if end == 0 || end == ring.Waiting {
			continue
		}
		if ring.Goes(0, end) || ring.Goes(end, ring.Waiting) || ring.Goes(end, end) {
			t.Errorf("%d comes of 0, or stays, or Waiting comes of it", end)
		}
	}
	if ring.Goes(ring.Waiting, ring.Waiting) || ring.Goes(ring.Waiting, 0) || ring.Goes(0, 0) {
		t.Error("Waiting stays, or is left for 0, or 0 stays")
	}
}

// P13.3: of all who want to leave Waiting one does: whoever comes then finds
// another state.
func TestOneLeaves(t *testing.T) {
	ends := []uint64{ring.Told, ring.Late, ring.Broken}
	for _, first := range ends {
		state := uint64(0)
		for _, to := range []uint64{ring.Waiting, first} {
			if !ring.Goes(state, to) {
				t.Fatalf("Goes(%d, %d) is false", state, to)
			}
			state = to
		}
		for _, other := range ends {
			if ring.Goes(state, other) {
				t.Errorf("%d comes of %d", other, state)
			}
		}
		if !ring.Goes(state, 0) {
			t.Errorf("0 does not come of %d", state)
		}
	}
}
