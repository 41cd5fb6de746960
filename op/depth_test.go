package op_test

import (
	"math"
	"slices"
	"testing"

	"futtock/api"
	"futtock/op"
)

// shaped are programs' texts, how deep they are in 0, 1 and 7, whether they are even,
// and whether they nest.
var shaped = []struct {
	text        string
	depths      [3]int
	even, nests bool
}{
	{"", [3]int{}, true, true},
	{"enter 0; wait 0 5; exit 0", [3]int{}, true, true},
	{"enter 0; exit 0", [3]int{}, true, true},
	{"enter 7; enter 7; exit 7; exit 7", [3]int{}, true, true},
	{"enter 0; enter 1; exit 1; enter 7; exit 7; exit 0; enter 1; exit 1", [3]int{}, true, true},
	{"hash 0; holds 1; notify 7; all 7; wait 1; interrupt 1; try 0", [3]int{}, true, true},

	// Even ones that do not nest.
	{"enter 0; enter 1; exit 0; exit 1", [3]int{}, true, false},
	{"enter 0; enter 1; enter 0; exit 0; exit 0; exit 1", [3]int{}, true, false},
	{"enter 7; enter 0; exit 7; exit 0; enter 1; exit 1", [3]int{}, true, false},

	// Such as nest and are not even.
	{"enter 0", [3]int{1, 0, 0}, false, true},
	{"enter 0; enter 0; exit 0", [3]int{1, 0, 0}, false, true},
	{"enter 1; enter 0; exit 0; enter 7; enter 7", [3]int{0, 1, 2}, false, true},
	{"enter 0; exit 0; enter 0; wait 0", [3]int{1, 0, 0}, false, true},

	// Such as are neither.
	{"exit 0", [3]int{-1, 0, 0}, false, false},
	{"exit 0; enter 0", [3]int{}, false, false},
	{"exit 7; exit 7; enter 7", [3]int{0, 0, -1}, false, false},
	{"enter 0; exit 1", [3]int{1, -1, 0}, false, false},
	{"enter 0; exit 1; enter 1; exit 0", [3]int{}, false, false},
	{"enter 0; exit 0; exit 0", [3]int{-1, 0, 0}, false, false},
	{"enter 0; exit 0; exit 0; enter 0", [3]int{}, false, false},
	{"enter 0; enter 1; exit 0", [3]int{0, 1, 0}, false, false},
	{"enter 1; enter 1; exit 1; exit 7; exit 1", [3]int{0, 0, -1}, false, false},

	// A Try is no Enter.
	{"try 0", [3]int{}, true, true},
	{"try 0; exit 0", [3]int{-1, 0, 0}, false, false},
	{"enter 0; try 0; exit 0", [3]int{}, true, true},
	{"enter 0; try 1; exit 0", [3]int{}, true, true},
	{"enter 0; try 0; exit 0; exit 0", [3]int{-1, 0, 0}, false, false},
	{"enter 0; try 1; exit 1; exit 0", [3]int{0, -1, 0}, false, false},

	// Nor is anything else one, or an Exit.
	{"wait 0 3; notify 0; all 0; hash 0; holds 0; interrupt 0; enter 0", [3]int{1, 0, 0}, false, true},
	{"enter 1; wait 1 3; notify 1; all 1; hash 1; holds 1; interrupt 1; exit 1", [3]int{}, true, true},
}

// P16.3: programs and what they are.
func TestDepthEvenNests(t *testing.T) {
	for _, p := range shaped {
		prog := ops(t, p.text)
		for i, obj := range []int{0, 1, 7} {
			if n := op.Depth(prog, obj); n != p.depths[i] {
				t.Errorf("Depth(%q, %d) is %d", p.text, obj, n)
			}
		}
		for obj := 2; obj < 7; obj++ {
			if n := op.Depth(prog, obj); n != 0 {
				t.Errorf("Depth(%q, %d) is %d", p.text, obj, n)
			}
		}
		if ok := op.Even(prog); ok != p.even {
			t.Errorf("Even(%q) is %v", p.text, ok)
		}
		if ok := op.Nests(prog); ok != p.nests {
			t.Errorf("Nests(%q) is %v", p.text, ok)
		}
	}
}

// P16.3: at each object alone, and at all of them, in order and mixed.
func TestDepthAtEachObject(t *testing.T) {
	for obj := range 8 {
		block := []api.Op{{Kind: enter, Obj: obj}, {Kind: try, Obj: obj}, {Kind: enter, Obj: obj}, {Kind: exit, Obj: obj}}
		for many := range 17 {
			prog := slices.Repeat(block, many)
			for at := range 8 {
				want := 0
				if at == obj {
					want = many
				}
				if got := op.Depth(prog, at); got != want {
					t.Fatalf("Depth(%v, %d) is %d, not %d", prog, at, got, want)
				}
			}
		}
	}
	var inOrder, mixed []api.Op
	for i := range 64 {
		inOrder = append(inOrder, api.Op{Kind: enter, Obj: i / 8})
		mixed = append(mixed, api.Op{Kind: []int{enter, exit}[i/40], Obj: i * 3 % 8})
	}
	for obj := range 8 {
		if got := op.Depth(inOrder, obj); got != 8 {
			t.Errorf("in order Depth at %d is %d", obj, got)
		}
		// Five Enters, three Exits.
		if got := op.Depth(mixed, obj); got != 2 {
			t.Errorf("mixed Depth at %d is %d", obj, got)
		}
	}
}

// P16.3: no program is deep in an object that there is not, though its number has the
// lowest bits of one.
func TestDepthAtWhatThereIsNot(t *testing.T) {
	n := numbers(9)
	for range 200 {
		prog := n.prog(64, 9)
		for _, obj := range append([]int{8, 9, 15}, extremes...) {
			if got := op.Depth(prog, obj); got != 0 {
				t.Errorf("Depth(%v, %d) is %d", prog, obj, got)
			}
		}
	}
	for _, prog := range [][]api.Op{nil, {}} {
		for _, obj := range []int{0, 7, 8, -1, math.MaxInt, math.MinInt} {
			if got := op.Depth(prog, obj); got != 0 {
				t.Errorf("Depth(%v, %d) is %d", prog, obj, got)
			}
		}
		if !op.Even(prog) || !op.Nests(prog) {
			t.Error("no operations are not even, or do not nest")
		}
	}
}

// P16.3: as deep as a program can be.
func TestDepthOf64(t *testing.T) {
	for kind, want := range map[int]int{enter: 64, exit: -64, try: 0, wait: 0, notify: 0, all: 0, hash: 0, holds: 0, interrupt: 0} {
		for _, many := range []int{1, 63, 64} {
			prog := slices.Repeat([]api.Op{{Kind: kind}}, many)
			if got := op.Depth(prog, 0); got != want*many/64 {
				t.Errorf("of %d of the kind %d Depth is %d", many, kind, got)
			}
		}
	}
}

// P16.3: of a program of more than 64 the first 64 count, in all three.
func TestMoreThan64(t *testing.T) {
	n := numbers(10)
	for range 3000 {
		prog := n.brackets(64, 1+n.below(3))
		longer := append(slices.Clip(prog), n.brackets(1+n.below(70), 3)...)
		for obj := range 3 {
			if got := op.Depth(longer, obj); got != deep(prog, obj) {
				t.Fatalf("Depth(%v, %d) is %d", longer, obj, got)
			}
		}
		if op.Even(longer) != isEven(prog) || op.Nests(longer) != isNested(prog) {
			t.Fatalf("of %v Even is %v, Nests %v", longer, op.Even(longer), op.Nests(longer))
		}
	}
	within := slices.Repeat([]api.Op{{Kind: enter}, {Kind: exit}}, 32)
	open := append(slices.Repeat([]api.Op{{Kind: enter}}, 33), slices.Repeat([]api.Op{{Kind: exit}}, 33)...)
	for _, more := range [][]api.Op{{{Kind: enter}}, {{Kind: exit}}, {{Kind: exit, Obj: 3}}, {{Kind: hash}}, {{Kind: hash}, {Kind: exit}}} {
		prog := append(slices.Clip(within), more...)
		if op.Depth(prog, 0) != 0 || op.Depth(prog, 3) != 0 || !op.Even(prog) || !op.Nests(prog) {
			t.Errorf("of 64 that are even and nest, and %v, it is told otherwise", more)
		}
	}
	if op.Depth(open, 0) != 2 || op.Even(open) || !op.Nests(open) {
		t.Errorf("of 66 that are even Depth is %d, Even %v, Nests %v", op.Depth(open, 0), op.Even(open), op.Nests(open))
	}
	crossed := append(slices.Clip(within[2:]), []api.Op{{Kind: enter}, {Kind: exit, Obj: 1}, {Kind: hash}}...)
	if op.Depth(crossed, 1) != -1 || op.Even(crossed) || op.Nests(crossed) {
		t.Error("of 65 whose 64th lets go what it did not enter it is told otherwise")
	}
}

// brackets are Enters and Exits of so many objects, and some others.
func (n *numbers) brackets(many, objects int) []api.Op {
	kinds := []int{enter, enter, enter, exit, exit, exit, try, wait, hash}
	var prog []api.Op
	for range many {
		prog = append(prog, api.Op{Kind: kinds[n.below(len(kinds))], Obj: n.below(objects)})
	}
	return prog
}

// looksAt looks at a program by the second reckoning.
func looksAt(t *testing.T, prog []api.Op) {
	t.Helper()
	was := slices.Clone(prog)
	even, nests := op.Even(prog), op.Nests(prog)
	if even != isEven(prog) || nests != isNested(prog) {
		t.Fatalf("of %v Even is %v, Nests %v", prog, even, nests)
	}
	for obj := range 8 {
		if got := op.Depth(prog, obj); got != deep(prog, obj) {
			t.Fatalf("Depth(%v, %d) is %d", prog, obj, got)
		}
		if even && op.Depth(prog, obj) != 0 {
			t.Fatalf("%v is even, and %d deep in %d", prog, op.Depth(prog, obj), obj)
		}
	}
	if !slices.Equal(prog, was) {
		t.Fatalf("%v was turned", was)
	}
}

// neverBelow0 tells of a program that nests, but has a depth below 0 somewhere.
func neverBelow0(t *testing.T, prog []api.Op) {
	t.Helper()
	if !op.Nests(prog) {
		return
	}
	for end := range len(prog) + 1 {
		for obj := range 8 {
			if op.Depth(prog[:end], obj) < 0 {
				t.Fatalf("%v nests, and its first %d are %d deep in %d", prog, end, op.Depth(prog[:end], obj), obj)
			}
		}
	}
}

// P16.3, P16.6: all programs of Enters, Trys and Exits of two objects of up to six
// operations; all four of even and nesting are there.
func TestAllOfFew(t *testing.T) {
	letters := []api.Op{{Kind: enter}, {Kind: exit}, {Kind: enter, Obj: 1}, {Kind: exit, Obj: 1}, {Kind: try}}
	seen := map[[2]bool]int{}
	var walk func(prog []api.Op)
	walk = func(prog []api.Op) {
		looksAt(t, prog)
		neverBelow0(t, prog)
		seen[[2]bool{op.Even(prog), op.Nests(prog)}]++
		if len(prog) == 6 {
			return
		}
		for _, o := range letters {
			walk(append(slices.Clip(prog), o))
		}
	}
	walk(nil)
	if len(seen) != 4 {
		t.Errorf("there are %v", seen)
	}
}

// P16.3, P16.6: programs of no pattern, of up to 64 operations, such as nest among
// them.
func TestProgramsOfNoPattern(t *testing.T) {
	n := numbers(11)
	for range 20000 {
		prog := n.brackets(n.below(65), 1+n.below(8))
		looksAt(t, prog)
	}
	for range 2000 {
		prog := n.nested(n.below(65))
		if !op.Nests(prog) {
			t.Fatalf("%v does not nest", prog)
		}
		looksAt(t, prog)
		neverBelow0(t, prog)
		if len(prog) > 0 {
			prog[n.below(len(prog))] = api.Op{Kind: exit, Obj: n.below(8)}
			looksAt(t, prog)
			neverBelow0(t, prog)
		}
	}
}

// nested are so many operations that nest.
func (n *numbers) nested(many int) []api.Op {
	var prog, entered []api.Op
	for len(prog) < many {
		switch last := len(entered) - 1; n.below(3) {
		case 0:
			o := api.Op{Kind: enter, Obj: n.below(8)}
			prog, entered = append(prog, o), append(entered, o)
		case 1:
			if last >= 0 {
				prog, entered = append(prog, api.Op{Kind: exit, Obj: entered[last].Obj}), entered[:last]
			}
		default:
			prog = append(prog, api.Op{Kind: try, Obj: n.below(8)})
		}
	}
	return prog
}
