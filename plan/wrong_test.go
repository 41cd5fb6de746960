package plan_test

import (
	"math"
	"slices"
	"testing"

	"futtock/api"
	"futtock/klass"
	"futtock/plan"
)

// isWrong tells of a Revoke that is not refused, or not with nothing besides.
func isWrong(t *testing.T, q question) {
	t.Helper()
	was := q.copied()
	for range 2 {
		if a := q.ask(); a.err != api.ErrArg || a.todo != 0 || len(a.classes) != 0 || len(a.changes) != 0 {
			t.Fatalf("Revoke of %d objects, %d classes and %d is %+v", len(q.objects), len(q.classes), q.o, a)
		}
		if !q.same(was) {
			t.Fatalf("%+v became %+v", was, q)
		}
	}
}

// P19.2, R1: an object that there is not.
func TestNoSuchObject(t *testing.T) {
	for _, many := range []int{0, 1, 2, 7, 255, 256} {
		q := lined(many, 0, 1)
		for _, o := range append([]int{-1, -2, -256, many, many + 1, many + 255, many + 256, 65535, 65536}, far...) {
			q.o = o
			isWrong(t, q)
		}
	}
}

// P19.2, R1: no objects and no classes, one of them or both, nil or empty.
func TestOfNothing(t *testing.T) {
	for _, o := range append([]int{-1, 0, 1}, far...) {
		isWrong(t, question{o: o})
		isWrong(t, question{objects: []plan.Object{}, classes: []klass.Class{}, o: o, rebias: 1, revoke: 1})
		isWrong(t, question{classes: []klass.Class{{Biased: true}}, o: o, rebias: 1, revoke: 1})
		isWrong(t, question{objects: []plan.Object{{Word: 5}}, o: o, rebias: 1, revoke: 1})
		isWrong(t, question{objects: []plan.Object{{Word: 5}}, classes: []klass.Class{}, o: o})
	}
}

// P19.2, R1: a class of o that there is not; of another object it may be.
func TestNoSuchClass(t *testing.T) {
	for _, many := range []int{0, 1, 2, 4, 255, 256} {
		for _, class := range append([]int{-1, -2, -256, many, many + 1, many + 255, many + 256, 65536}, far...) {
			q := lined(5, 0, many)
			for o := range q.objects {
				q.o = o
				q.objects[o].Class = class
				isWrong(t, q)
				if many > 0 {
					q.o = (o + 1) % 5
					if a := agrees(t, q); a.err != api.OK || len(a.changes) != 4 {
						t.Fatalf("object %d of the class %d, of %d: %+v", o, class, many, a)
					}
				}
				q.objects[o].Class = 0
			}
		}
	}
}

// P19.2: more than 256 objects, or classes, or both.
func TestTooMany(t *testing.T) {
	for _, x := range [][2]int{{257, 1}, {258, 1}, {512, 1}, {4096, 1}, {1, 257}, {1, 258}, {1, 512}, {256, 257}, {257, 256}, {257, 257}, {65536, 1}, {1, 65536}} {
		q := lined(x[0], 0, x[1])
		for _, o := range []int{0, x[0] - 1, -1, x[0], math.MaxInt, math.MinInt} {
			q.o = o
			isWrong(t, q)
			for i := range q.objects {
				q.objects[i].Class = x[1]
			}
			isWrong(t, q)
			for i := range q.objects {
				q.objects[i].Class = 0
			}
		}
	}
}

// P19.2: too many classes, and o of one of them; and too many objects, the class of
// o none, and no object o at once.
func TestWrongInManyWays(t *testing.T) {
	for _, class := range []int{0, 1, 255, 256, 257, -1} {
		isWrong(t, lined(3, class, 257))
		isWrong(t, lined(257, class, 3))
		q := lined(300, class, 300)
		q.o, q.rebias, q.revoke = 300, math.MinInt, math.MinInt
		isWrong(t, q)
		q.o = -1
		isWrong(t, q)
	}
}

// R1: whatever the words, counts, classes and limits are, no call panics.
func TestNoCallPanics(t *testing.T) {
	ends := append([]int{-2, -1, 0, 1, 2, 255, 256, 257, 999, 1000, 1001, 65535, 65536}, far...)
	words := append(notBiased(), bias(0, 0, 0), bias(15, 255, 1), bias(15, 255, 65535))
	n := numbers(3)
	pick := func() int { return ends[n.below(len(ends))] }
	some := func() plan.Object {
		x := plan.Object{Word: words[n.below(len(words))], Class: n.below(3)}
		if n.below(3) == 0 {
			x.Word, x.Class = bias(1, uint64(n.below(256)), uint64(n.below(3))), pick()
		}
		for range n.below(4) {
			x.Count = append(x.Count, pick())
		}
		return x
	}
	for range 20000 {
		q := question{o: n.below(4), rebias: pick(), revoke: pick()}
		if n.below(4) == 0 {
			q.o = pick()
		}
		for range n.below(5) {
			q.objects = append(q.objects, some())
		}
		for range n.below(4) {
			q.classes = append(q.classes, klass.Class{Biased: n.below(4) > 0, Epoch: uint8(pick()), Count: pick()})
		}
		agrees(t, q)
		x := some()
		o := pick()
		if want, ok := slowOne(o, x); ok {
			one(t, o, x, want)
		} else {
			oneNone(t, o, x)
		}
	}
}

// R4: what was answered is the caller's: to write into it, or behind it, turns
// neither what was handed in nor another answer.
func TestAnswersAreTheCallers(t *testing.T) {
	for todo, revoke := range map[int]int{klass.Single: 9, klass.Rebias: 8, klass.Revoke: 5} {
		q := question{mixed(), classes(4), 0, 5, revoke}
		if todo == klass.Single {
			q.rebias = 9
		}
		was, kept := q.copied(), q.ask()
		if kept.todo != todo || len(kept.changes) == 0 || len(kept.classes) != 2 {
			t.Fatalf("Revoke of %+v is %+v", q, kept)
		}
		want := answer{kept.todo, slices.Clone(kept.classes), slices.Clone(kept.changes), kept.err}
		a := q.ask()
		for i := range a.classes {
			a.classes[i] = klass.Class{Epoch: 77, Count: 78}
		}
		for i := range a.changes {
			a.changes[i] = plan.Change{Obj: 79, Word: 80, Owner: 81, Saved: 82}
		}
		_ = append(a.classes[:1], klass.Class{}, klass.Class{}, klass.Class{})
		_ = append(a.changes[:0], make([]plan.Change, 20)...)
		if !q.same(was) || !kept.same(want) {
			t.Fatalf("%+v became %+v, %+v became %+v", was, q, want, kept)
		}
		for i := range q.objects {
			q.objects[i] = plan.Object{Word: 3}
		}
		for i := range q.classes {
			q.classes[i] = klass.Class{}
		}
		if !kept.same(want) {
			t.Fatalf("%+v became %+v", want, kept)
		}
		answers(t, was, want)
	}
}

// R4: no room behind the lists that are handed in is written into.
func TestNothingIsWrittenBehind(t *testing.T) {
	for revoke := 5; revoke <= 9; revoke++ {
		objects := append(mixed(), plan.Object{Word: 70, Class: 71, Count: []int{72}})
		all := append(classes(4), klass.Class{Epoch: 73, Count: 74})
		q := question{objects[:len(objects)-1], all[:2], 0, revoke - 1, revoke}
		agrees(t, q)
		if x := objects[len(objects)-1]; x.Word != 70 || x.Class != 71 || !slices.Equal(x.Count, []int{72}) {
			t.Fatalf("behind the objects stands %+v", x)
		}
		if c := all[2]; c != (klass.Class{Epoch: 73, Count: 74}) {
			t.Fatalf("behind the classes stands %+v", c)
		}
	}
}
