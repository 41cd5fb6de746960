package op_test

import (
	"math"
	"slices"
	"testing"

	"futtock/api"
	"futtock/ghost"
	"futtock/op"
)

// P16.1: the kinds' numbers are those that the document tells.
func TestKinds(t *testing.T) {
	kinds := []int{op.Enter, op.Try, op.Exit, op.Wait, op.Notify, op.All, op.Hash, op.Holds, op.Interrupt}
	if want := []int{1, 2, 3, 4, 5, 6, 7, 8, 9}; !slices.Equal(kinds, want) {
		t.Errorf("the kinds are %v", kinds)
	}
}

// mayIs tells of an operation of which May answers something else.
func mayIs(t *testing.T, o api.Op, threads, objects int, want bool) {
	t.Helper()
	if ok := op.May(o, threads, objects); ok != want {
		t.Errorf("May(%v, %d, %d) is %v", o, threads, objects, ok)
	}
}

// P16.1: of each kind what may be: the first object and the last one, the first thread
// and the last one, the Args of a Wait, and what is next to these.
func TestMay(t *testing.T) {
	for _, kind := range []int{enter, try, exit, wait, notify, all, hash, holds} {
		for objects := 1; objects <= 8; objects++ {
			for obj := range objects {
				mayIs(t, api.Op{Kind: kind, Obj: obj}, 1, objects, true)
				mayIs(t, api.Op{Kind: kind, Obj: obj}, 8, objects, true)
			}
			mayIs(t, api.Op{Kind: kind, Obj: objects}, 8, objects, false)
			mayIs(t, api.Op{Kind: kind, Obj: -1}, 8, objects, false)
			mayIs(t, api.Op{Kind: kind, Arg: 1}, 8, objects, kind == wait)
			mayIs(t, api.Op{Kind: kind, Arg: -1}, 8, objects, false)
		}
	}
	for threads := 1; threads <= 8; threads++ {
		for thread := range threads {
			mayIs(t, api.Op{Kind: interrupt, Arg: thread}, threads, 1, true)
			mayIs(t, api.Op{Kind: interrupt, Arg: thread}, threads, 8, true)
		}
		mayIs(t, api.Op{Kind: interrupt, Arg: threads}, threads, 8, false)
		mayIs(t, api.Op{Kind: interrupt, Arg: -1}, threads, 8, false)
	}
	for obj := 1; obj <= 8; obj++ {
		mayIs(t, api.Op{Kind: interrupt, Obj: obj}, 8, 8, false)
		mayIs(t, api.Op{Kind: interrupt, Obj: obj, Arg: 7}, 8, 8, false)
	}
	for _, ticks := range []int{0, 1, 2, 8, 255, 256, 65535, 65536, 999999, 1000000} {
		mayIs(t, api.Op{Kind: wait, Arg: ticks}, 1, 1, true)
		mayIs(t, api.Op{Kind: wait, Obj: 7, Arg: ticks}, 8, 8, true)
	}
	for _, ticks := range []int{-1, -1000000, 1000001, 1 << 31, 1 << 32, 1 << 40, math.MaxInt, math.MinInt} {
		mayIs(t, api.Op{Kind: wait, Arg: ticks}, 8, 8, false)
	}
}

// P16.1: what may not be in any world.
func TestMayOfWrongOperations(t *testing.T) {
	for _, o := range wrongOps() {
		for _, n := range []int{1, 2, 7, 8} {
			mayIs(t, o, n, n, false)
			mayIs(t, o, 8, n, false)
			mayIs(t, o, n, 8, false)
		}
	}
}

// P16.1: where there are no objects, no operation may be; where there are no threads,
// nobody can be interrupted.
func TestMayOfNoObjectsAndNoThreads(t *testing.T) {
	for kind := 1; kind <= 9; kind++ {
		for _, none := range []int{0, -1, -8, -256, math.MinInt, math.MinInt + 1} {
			for _, n := range []int{0, -1, none} {
				mayIs(t, api.Op{Kind: kind, Obj: n}, 8, none, false)
				mayIs(t, api.Op{Kind: kind, Arg: n}, 8, none, false)
				mayIs(t, api.Op{Kind: interrupt, Arg: n}, none, 8, false)
			}
		}
	}
}

// P16.1: all operations of few numbers, and how many of them may be.
func TestMayOfAll(t *testing.T) {
	args := []int{-1, 0, 1, 2, 3, 4, 5, 6, 7, 8, 9, 1000000, 1000001}
	for threads := 1; threads <= 8; threads++ {
		for objects := 1; objects <= 8; objects++ {
			many := 0
			for kind := -1; kind <= 18; kind++ {
				for obj := -1; obj <= 17; obj++ {
					for _, arg := range args {
						o := api.Op{Kind: kind, Obj: obj, Arg: arg}
						mayIs(t, o, threads, objects, isOne(o, threads, objects))
						if op.May(o, threads, objects) {
							many++
						}
					}
				}
			}
			// Seven kinds without an Arg, Waits of eleven Args, and Interrupts.
			if want := 7*objects + 11*objects + threads; many != want {
				t.Errorf("of %d threads and %d objects %d operations may be, not %d", threads, objects, many, want)
			}
		}
	}
}

// P16.1: what may be may be called in layer 15's logs of so many threads and objects;
// what may be called there may be, but a Wait of too many ticks, and an Interrupt of
// another object than 0.
func TestMayAsLayer15Says(t *testing.T) {
	for _, w := range [][2]int{{1, 1}, {1, 8}, {8, 1}, {2, 3}, {8, 8}} {
		for kind := -1; kind <= 11; kind++ {
			for obj := -1; obj <= 9; obj++ {
				for _, arg := range []int{-1, 0, 1, 2, 7, 8, 1000000, 1000001, math.MaxInt} {
					o := api.Op{Kind: kind, Obj: obj, Arg: arg}
					_, called := ghost.Right(w[0], w[1], 1, []ghost.Entry{{Kind: ghost.Call, Op: o}})
					mayIs(t, o, w[0], w[1], called && arg <= 1000000 && (kind != interrupt || obj == 0))
				}
			}
		}
	}
}

// TestAllCallsEnd: no call panics, whatever it is handed, and none turns it.
func TestAllCallsEnd(t *testing.T) {
	l := append(wrongOps(), api.Op{}, api.Op{Kind: enter}, api.Op{Kind: wait, Obj: 7, Arg: 1000000})
	for _, o := range l {
		for _, other := range l[len(l)-60:] {
			for _, prog := range [][]api.Op{{o}, {o, other}, {other, o}, {o, other, o, other}} {
				err := isProgram(prog)
				was := slices.Clone(prog)
				if _, got := op.Text(prog); got != err {
					t.Fatalf("Text(%v) is %d, not %d", prog, got, err)
				}
				if _, got := op.Pack(prog); got != err && got != api.ErrArg {
					t.Fatalf("Pack(%v) is %d", prog, got)
				}
				op.Even(prog)
				op.Nests(prog)
				for _, n := range []int{o.Obj, o.Arg, -1, 8, math.MaxInt, math.MinInt} {
					op.Depth(prog, n)
					op.May(o, n, o.Arg)
					op.May(o, o.Kind, n)
				}
				if !slices.Equal(prog, was) {
					t.Fatalf("%v was turned into %v", was, prog)
				}
			}
		}
	}
}

// P16.1 to P16.3: nothing is written into what lies behind the end of a list that is
// handed in.
func TestNothingIsWrittenBehindAnEnd(t *testing.T) {
	n := numbers(16)
	mark := api.Op{Kind: 77, Obj: 77, Arg: 77}
	for many := range 66 {
		whole := append(n.prog(many, 65535), mark, mark, mark)
		prog := whole[:many]
		_, textErr := op.Text(prog)
		_, packErr := op.Pack(prog)
		op.Depth(prog, 0)
		op.Even(prog)
		op.Nests(prog)
		if want := isProgram(prog); textErr != want || packErr != want {
			t.Errorf("of %d operations Text is %d, Pack %d", many, textErr, packErr)
		}
		if !slices.Equal(whole[many:], []api.Op{mark, mark, mark}) {
			t.Errorf("behind %d operations stand %v", many, whole[many:])
		}
		b := append(bytesOf(whole[:min(many, 64)]), 77, 77, 77)
		op.Unpack(b[:len(b)-3])
		if !slices.Equal(b[len(b)-3:], []byte{77, 77, 77}) {
			t.Errorf("behind %d operations' bytes stand %v", many, b[len(b)-3:])
		}
	}
}

// bytesOf are the bytes of operations that fit.
func bytesOf(prog []api.Op) []byte {
	b := []byte{}
	for _, o := range prog {
		b = append(b, byte(o.Kind+16*o.Obj), byte(o.Arg%256), byte(o.Arg/256))
	}
	return b
}

// P16.1: the document's example.
func TestExample(t *testing.T) {
	s := "enter 0; wait 0 5; exit 0"
	prog, err := op.Parse(s)
	if want := []api.Op{{Kind: enter}, {Kind: wait, Arg: 5}, {Kind: exit}}; err != api.OK || !slices.Equal(prog, want) {
		t.Fatalf("Parse is %v, %d", prog, err)
	}
	if !op.Even(prog) || !op.Nests(prog) {
		t.Error("it is not even, or does not nest")
	}
	textIs(t, prog, s, api.OK)
	packIs(t, prog, []byte{1, 0, 0, 4, 5, 0, 3, 0, 0}, api.OK)
}
