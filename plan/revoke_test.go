package plan_test

import (
	"math"
	"slices"
	"testing"

	"futtock/api"
	"futtock/klass"
	"futtock/plan"
)

// mixed are objects of the classes 0 and 1, with words of each kind, some of an
// owner that has a record and some of one that has none.
func mixed() []plan.Object {
	return []plan.Object{
		{Class: 1, Word: 0x300020d, Count: []int{0, 0, 1}},
		{Class: 1, Word: 0x300020d, Count: []int{1, 1, 0}},
		{Class: 0, Word: 0x1000205, Count: []int{2}},
		{Class: 1, Word: 5, Count: []int{1, 1, 1}},
		{Class: 1, Word: 0x711, Count: []int{0, 0, 0}},
		{Class: 1, Word: 0x2000500, Count: []int{0, 1, 0}},
		{Class: 1, Word: 0x200007d, Count: []int{0, 60, 0}},
		{Class: 0, Word: 0x205, Count: nil},
		{Class: 1, Word: 0x9000302, Count: []int{0, 0, 0}},
		{Class: 1, Word: 0x2000305, Count: []int{0, 3}},
		{Class: 1, Word: 3, Count: []int{1, 1, 1}},
		{Class: 1, Word: 0, Count: []int{1}},
		{Class: 1, Word: 0x1000205, Count: []int{1}},
	}
}

// classes are one that is not asked of, and one that was revoked so often.
func classes(count int) []klass.Class {
	return []klass.Class{{Biased: true, Epoch: 2, Count: 4}, {Biased: true, Epoch: 2, Count: count}}
}

// P19.2: Single: the change of o alone, whatever the others are.
func TestSingle(t *testing.T) {
	none := []plan.Change(nil)
	for _, x := range []struct {
		o       int
		changes []plan.Change
	}{
		{0, []plan.Change{{Obj: 0, Word: 0x3000000, Owner: 2, Saved: 9}}},
		{1, []plan.Change{{Obj: 1, Word: 9, Owner: -1}}},
		{3, []plan.Change{{Obj: 3, Word: 1, Owner: -1}}},
		{4, none},
		{5, none},
		{6, []plan.Change{{Obj: 6, Word: 0x2000600, Owner: 1, Saved: 0x79}}},
		{8, none},
		{9, []plan.Change{{Obj: 9, Word: 0x2000900, Owner: 1, Saved: 1}}},
		{10, none},
		{11, none},
		{12, []plan.Change{{Obj: 12, Word: 0x1000c00, Owner: 0, Saved: 1}}},
	} {
		answers(t, question{mixed(), classes(7), x.o, 5, 20}, answer{klass.Single, classes(8), x.changes, api.OK})
		// Of a class that is not biased it is Single at any count.
		was, behind := classes(39), classes(40)
		was[1].Biased, behind[1].Biased = false, false
		answers(t, question{mixed(), was, x.o, 5, 20}, answer{klass.Single, behind, x.changes, api.OK})
	}
}

// P19.2: Rebias: first the others that are owned, in order, then o, be it the
// first, in the middle, the last, or of another kind. (The word of 9 is of the
// epoch 3 already.)
func TestRebias(t *testing.T) {
	fresh := map[int]plan.Change{
		0:  {Obj: 0, Word: 0x300030d, Owner: 2},
		6:  {Obj: 6, Word: 0x200037d, Owner: 1},
		12: {Obj: 12, Word: 0x1000305, Owner: 0},
	}
	behind := classes(10)
	behind[1].Epoch = 3
	for _, x := range []struct {
		o       int
		changes []plan.Change
	}{
		{0, []plan.Change{fresh[6], fresh[12], {Obj: 0, Word: 0x3000000, Owner: 2, Saved: 9}}},
		{1, []plan.Change{fresh[0], fresh[6], fresh[12], {Obj: 1, Word: 9, Owner: -1}}},
		{3, []plan.Change{fresh[0], fresh[6], fresh[12], {Obj: 3, Word: 1, Owner: -1}}},
		{4, []plan.Change{fresh[0], fresh[6], fresh[12]}},
		{5, []plan.Change{fresh[0], fresh[6], fresh[12]}},
		{6, []plan.Change{fresh[0], fresh[12], {Obj: 6, Word: 0x2000600, Owner: 1, Saved: 0x79}}},
		{8, []plan.Change{fresh[0], fresh[6], fresh[12]}},
		{9, []plan.Change{fresh[0], fresh[6], fresh[12], {Obj: 9, Word: 0x2000900, Owner: 1, Saved: 1}}},
		{10, []plan.Change{fresh[0], fresh[6], fresh[12]}},
		{11, []plan.Change{fresh[0], fresh[6], fresh[12]}},
		{12, []plan.Change{fresh[0], fresh[6], {Obj: 12, Word: 0x1000c00, Owner: 0, Saved: 1}}},
	} {
		answers(t, question{mixed(), classes(9), x.o, 5, 20}, answer{klass.Rebias, behind, x.changes, api.OK})
	}
}

// P19.2: Revoke: all objects of the class, in order, and it is biased no more.
func TestRevoke(t *testing.T) {
	behind := classes(20)
	behind[1].Biased = false
	changes := []plan.Change{
		{Obj: 0, Word: 0x3000000, Owner: 2, Saved: 9},
		{Obj: 1, Word: 9, Owner: -1},
		{Obj: 3, Word: 1, Owner: -1},
		{Obj: 6, Word: 0x2000600, Owner: 1, Saved: 0x79},
		{Obj: 9, Word: 0x2000900, Owner: 1, Saved: 1},
		{Obj: 12, Word: 0x1000c00, Owner: 0, Saved: 1},
	}
	for _, o := range []int{0, 1, 3, 4, 5, 6, 8, 9, 10, 11, 12} {
		answers(t, question{mixed(), classes(19), o, 5, 20}, answer{klass.Revoke, behind, changes, api.OK})
	}
}

// P19.2: of the other class the others stay.
func TestTheOtherClass(t *testing.T) {
	behind := classes(19)
	behind[0] = klass.Class{Biased: true, Epoch: 3, Count: 5}
	answers(t, question{mixed(), classes(19), 7, 5, 20}, answer{klass.Rebias, behind, []plan.Change{
		{Obj: 2, Word: 0x1000305, Owner: 0}, {Obj: 7, Word: 1, Owner: -1},
	}, api.OK})
	behind[0] = klass.Class{Epoch: 2, Count: 5}
	answers(t, question{mixed(), classes(19), 7, 5, 5}, answer{klass.Revoke, behind, []plan.Change{
		{Obj: 2, Word: 0x1000200, Owner: 0, Saved: 1}, {Obj: 7, Word: 1, Owner: -1},
	}, api.OK})
	behind[0] = klass.Class{Biased: true, Epoch: 2, Count: 5}
	answers(t, question{mixed(), classes(19), 2, 6, 20}, answer{klass.Single, behind, []plan.Change{
		{Obj: 2, Word: 0x1000200, Owner: 0, Saved: 1},
	}, api.OK})
}

// P19.2: the document's example, of each of the three that are to be done: there
// is one object, of which nobody has a record.
func TestOfOneObject(t *testing.T) {
	objects := []plan.Object{{Word: 0x1000005, Count: []int{0}}}
	changes := []plan.Change{{Obj: 0, Word: 1, Owner: -1}}
	was := []klass.Class{{Biased: true, Count: 1}}
	answers(t, question{objects, was, 0, 3, 3}, answer{klass.Single, []klass.Class{{Biased: true, Count: 2}}, changes, api.OK})
	answers(t, question{objects, was, 0, 2, 3}, answer{klass.Rebias, []klass.Class{{Biased: true, Epoch: 1, Count: 2}}, changes, api.OK})
	answers(t, question{objects, was, 0, 2, 2}, answer{klass.Revoke, []klass.Class{{Count: 2}}, changes, api.OK})
}

// P19.2: a word that is of the epoch to come is not told, if it is owned, as it is
// Fresh already; if it isn't, it stays; behind the epoch 255 comes 0.
func TestEpochs(t *testing.T) {
	for _, x := range [][2]uint64{{0, 1}, {1, 2}, {127, 128}, {254, 255}, {255, 0}} {
		was, next := x[0], x[1]
		objects := []plan.Object{
			{Word: bias(1, next, 1), Count: []int{1}},
			{Word: bias(2, was, 1), Count: []int{1}},
			{Word: bias(3, next, 1), Count: []int{0}},
			{Word: bias(4, was, 1), Count: []int{0}},
			{Word: bias(5, next, 1), Count: []int{1}},
			{Word: bias(6, next, 0), Count: []int{1}},
			{Word: bias(15, next^1, 2), Count: []int{0, 1}},
		}
		changes := []plan.Change{
			{Obj: 1, Word: bias(2, next, 1), Owner: 0},
			{Obj: 6, Word: bias(15, next, 2), Owner: 1},
			{Obj: 4, Word: thin(1, 4), Owner: 0, Saved: neutral(5, 0)},
		}
		answers(t, question{objects, []klass.Class{{Biased: true, Epoch: uint8(was)}}, 4, 1, 2},
			answer{klass.Rebias, []klass.Class{{Biased: true, Epoch: uint8(next), Count: 1}}, changes, api.OK})
	}
}

// P19.2: Fresh keeps the Age and the owner: of all Ages, and of owners at both
// ends, the counts ending with each.
func TestFreshKeepsAgeAndOwner(t *testing.T) {
	for age := range uint64(16) {
		for _, owner := range []uint64{1, 2, 8, 256, 65535} {
			thread := int(owner) - 1
			objects := []plan.Object{
				{Word: bias(age, 0, owner), Count: counted(thread+1, thread, 1)},
				{Word: 1},
				{Word: bias(age, 9, owner), Count: counted(thread+1, thread, 0)},
				{Word: bias(age, 9, owner), Count: slices.Repeat([]int{1}, thread)},
			}
			answers(t, question{objects, []klass.Class{{Biased: true, Epoch: 6}}, 1, 1, 2},
				answer{klass.Rebias, []klass.Class{{Biased: true, Epoch: 7, Count: 1}}, []plan.Change{{Obj: 0, Word: bias(age, 7, owner), Owner: thread}}, api.OK})
		}
	}
}

// P19.2: what is to be done at counts and limits that are written out; the words
// and the class are turned by it, and the count is one more, at most 1000, or as
// it is.
func TestCountsAndLimits(t *testing.T) {
	for _, x := range []struct {
		count, rebias, revoke int
		todo, behind          int
	}{
		{0, 1, 1, klass.Revoke, 1},
		{0, 1, 2, klass.Rebias, 1},
		{0, 2, 2, klass.Single, 1},
		{0, 0, 2, klass.Rebias, 1},
		{0, -1, 2, klass.Rebias, 1},
		{6, math.MinInt, 8, klass.Rebias, 7},
		{6, 7, 7, klass.Revoke, 7},
		{6, 7, 6, klass.Revoke, 7},
		{6, 7, 0, klass.Revoke, 7},
		{6, 7, -5, klass.Revoke, 7},
		{6, 7, math.MinInt, klass.Revoke, 7},
		{6, 7, 8, klass.Rebias, 7},
		{6, 7, math.MaxInt, klass.Rebias, 7},
		{6, math.MaxInt, math.MaxInt, klass.Single, 7},
		{6, 1 << 32, 1 << 32, klass.Single, 7},
		{998, 1000, 1000, klass.Single, 999},
		{998, 999, 1000, klass.Rebias, 999},
		{998, 1000, 999, klass.Revoke, 999},
		{999, 1000, 1001, klass.Rebias, 1000},
		{999, 1000, 1000, klass.Revoke, 1000},
		{999, 3, 1001, klass.Single, 1000},
		{1000, 1000, 1001, klass.Rebias, 1000},
		{1000, 1000, 1000, klass.Revoke, 1000},
		{1000, 7, 1001, klass.Single, 1000},
		{1001, 1001, 1002, klass.Rebias, 1001},
		{1001, 1001, 1001, klass.Revoke, 1001},
		{1001, 1000, 1002, klass.Single, 1001},
		{math.MaxInt, 2, math.MaxInt, klass.Revoke, math.MaxInt},
		{-1, 5, 1, klass.Rebias, 0},
		{-3, 5, 1, klass.Single, -2},
		{-3, 5, -2, klass.Revoke, -2},
	} {
		objects := []plan.Object{
			{Word: bias(1, 4, 2), Count: []int{0, 1}},
			{Word: bias(2, 4, 1), Count: []int{0, 1}},
		}
		changes := []plan.Change{{Obj: 1, Word: neutral(2, 0), Owner: -1}}
		class := klass.Class{Biased: true, Epoch: 4, Count: x.behind}
		switch x.todo {
		case klass.Rebias:
			class.Epoch = 5
			changes = []plan.Change{{Obj: 0, Word: bias(1, 5, 2), Owner: 1}, changes[0]}
		case klass.Revoke:
			class.Biased = false
			changes = []plan.Change{{Obj: 0, Word: thin(2, 0), Owner: 1, Saved: neutral(1, 0)}, changes[0]}
		}
		q := question{objects, []klass.Class{{Biased: true, Epoch: 4, Count: x.count}}, 1, x.rebias, x.revoke}
		answers(t, q, answer{x.todo, []klass.Class{class}, changes, api.OK})
		agrees(t, q)
	}
}

// P19.2: a revocation is counted whatever o's word is, and the class is turned by
// it.
func TestCountedWhateverTheWord(t *testing.T) {
	for _, w := range append(notBiased(), bias(1, 2, 3), bias(1, 2, 0)) {
		for count := range 4 {
			q := question{[]plan.Object{{Word: w, Count: []int{1, 1, 1}}}, []klass.Class{{Biased: true, Epoch: 2, Count: count}}, 0, 2, 3}
			a := agrees(t, q)
			todo := []int{klass.Single, klass.Rebias, klass.Revoke, klass.Revoke}[count]
			if a.todo != todo || a.classes[0].Count != count+1 {
				t.Fatalf("%#x at the count %d: %+v", w, count, a)
			}
		}
	}
}

// lined are so many objects of the class, each Biased to the thread 0, which has a
// record of it, and as many classes as those.
func lined(objects, class, classes int) question {
	q := question{rebias: 1, revoke: 2}
	for range objects {
		q.objects = append(q.objects, plan.Object{Class: class, Word: bias(1, 0, 1), Count: []int{1}})
	}
	for range classes {
		q.classes = append(q.classes, klass.Class{Biased: true})
	}
	return q
}

// P19.2: there may be 256 objects and 256 classes, each of which may be asked of.
func TestMany(t *testing.T) {
	for _, many := range []int{1, 2, 255, 256} {
		for _, o := range []int{0, many / 2, many - 1} {
			for _, class := range []int{0, many / 2, many - 1} {
				q := lined(many, class, many)
				q.o = o
				a := agrees(t, q)
				if a.todo != klass.Rebias || len(a.changes) != many || len(a.classes) != many || a.changes[many-1].Obj != o {
					t.Fatalf("of %d, object %d, class %d: %+v", many, o, class, a)
				}
				q.revoke = 1
				a = agrees(t, q)
				if a.todo != klass.Revoke || len(a.changes) != many || a.changes[many-1].Word != thin(1, uint64(many-1)) {
					t.Fatalf("of %d, object %d, class %d: %+v", many, o, class, a)
				}
			}
		}
	}
}

// P19.2: objects of a class that there is not are in no one's way.
func TestOthersOfNoClass(t *testing.T) {
	q := lined(12, 0, 2)
	for i, class := range []int{1, -1, 2, 0, 3, 1 << 32, 1<<32 + 1, math.MinInt, math.MaxInt, 0, 1, -2} {
		q.objects[i].Class = class
	}
	for _, o := range []int{0, 10} {
		q.o = o
		for revoke := 1; revoke <= 2; revoke++ {
			q.revoke = revoke
			if a := agrees(t, q); a.err != api.OK || len(a.changes) != 2 {
				t.Fatalf("%d: %+v", o, a)
			}
		}
	}
}
