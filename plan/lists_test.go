package plan_test

import (
	"testing"

	"futtock/api"
	"futtock/klass"
	"futtock/plan"
	"futtock/word"
)

// numbers are of no pattern, and the same ones each time.
type numbers uint64

func (n *numbers) below(end int) int {
	*n = *n*6364136223846793005 + 1442695040888963407
	return int(uint64(*n) >> 33 % uint64(end))
}

// P19.2 to P19.5: all of few objects, of two classes, each with words of all
// kinds that lead another way, each of them o, each policy asked.
func TestAllOfFew(t *testing.T) {
	words := []plan.Object{
		{Word: bias(1, 7, 0), Count: []int{1, 1}},
		{Word: bias(2, 7, 1), Count: []int{1, 0}},
		{Word: bias(3, 7, 1), Count: []int{0, 1}},
		{Word: bias(4, 8, 2), Count: []int{0, 2}},
		{Word: bias(5, 5, 2), Count: []int{0, 1}},
		{Word: bias(6, 6, 3), Count: []int{1, 1}},
		{Word: neutral(7, 9), Count: []int{0, 0}},
		{Word: thin(1, 0), Count: []int{1, 0}},
		{Word: 3, Count: []int{1, 1}},
	}
	var kinds []plan.Object
	for _, x := range words {
		for class := range 2 {
			x.Class = class
			kinds = append(kinds, x)
		}
	}
	for nr := range len(kinds) * len(kinds) * len(kinds) {
		objects := []plan.Object{kinds[nr%len(kinds)], kinds[nr/len(kinds)%len(kinds)], kinds[nr/len(kinds)/len(kinds)]}
		for o := range objects {
			for _, count := range []int{3, 4, 5} {
				for _, biased := range []bool{true, false} {
					classes := []klass.Class{{Biased: biased, Epoch: 7, Count: count}, {Biased: true, Epoch: 7, Count: 9 - count}}
					looked(t, question{objects, classes, o, 5, 6})
				}
			}
		}
	}
}

// looked asks, and looks at what the words behind it are.
func looked(t *testing.T, q question) answer {
	t.Helper()
	a := agrees(t, q)
	if a.err != api.OK {
		return a
	}
	behind := q.behind(a.changes)
	othersStay(t, q, a, behind)
	nothingLost(t, q, a, behind)
	biasesAreRight(t, q, a, behind)
	return a
}

// othersStay tells of an object of another class that is turned, of such a class,
// and of a change that is none.
func othersStay(t *testing.T, q question, a answer, behind []plan.Object) {
	t.Helper()
	of := q.objects[q.o].Class
	for i, x := range q.objects {
		if x.Class != of && behind[i].Word != x.Word {
			t.Fatalf("%+v: %d of another class became %#x", q, i, behind[i].Word)
		}
	}
	for i, c := range q.classes {
		if i != of && a.classes[i] != c {
			t.Fatalf("%+v: the class %d became %+v", q, i, a.classes[i])
		}
	}
	told := map[int]bool{}
	for _, c := range a.changes {
		if told[c.Obj] || q.objects[c.Obj].Word == c.Word || q.objects[c.Obj].Class != of {
			t.Fatalf("%+v: there is a change %+v", q, c)
		}
		told[c.Obj] = true
	}
}

// nothingLost tells of an object whose word told one who has records of it, and
// does not any more, or whose change does not tell of it.
func nothingLost(t *testing.T, q question, a answer, behind []plan.Object) {
	t.Helper()
	for i, x := range q.objects {
		if word.Kind(x.Word) != word.Biased || !has(x, plan.Owner(x.Word)) {
			continue
		}
		h, err := word.Read(behind[i].Word)
		if err != api.OK || h.Kind != word.Thin && h.Kind != word.Biased || plan.Owner(behind[i].Word) != plan.Owner(x.Word) {
			t.Fatalf("%+v: %d of the owner %d became %#x", q, i, plan.Owner(x.Word), behind[i].Word)
		}
		if h.Kind == word.Thin && int(h.Record) != i {
			t.Fatalf("%+v: %d became %+v", q, i, h)
		}
	}
	for _, c := range a.changes {
		x := q.objects[c.Obj]
		h, _ := word.Read(x.Word)
		saved := uint64(0)
		if word.Kind(c.Word) == word.Thin {
			saved = neutral(uint64(h.Age), 0)
		}
		owner := -1
		if has(x, plan.Owner(x.Word)) {
			owner = plan.Owner(x.Word)
		}
		if c.Owner != owner || c.Saved != saved {
			t.Fatalf("%+v: there is a change %+v, not of the owner %d and %#x", q, c, owner, saved)
		}
	}
}

// biasesAreRight tells of objects of the class that are Biased behind Revoke, or
// Valid behind Rebias without being owned, or not though they are. (A word that is
// of the epoch to come already, and not owned, stays as it is.)
func biasesAreRight(t *testing.T, q question, a answer, behind []plan.Object) {
	t.Helper()
	of := q.objects[q.o].Class
	class := a.classes[of]
	is, was := class.Biased, q.classes[of].Biased
	if word.Kind(behind[q.o].Word) == word.Biased || is != (was && a.todo != klass.Revoke) {
		t.Fatalf("%+v: %d is %#x behind %d, its class %+v", q, q.o, behind[q.o].Word, a.todo, class)
	}
	for i, x := range q.objects {
		if x.Class != of || i == q.o {
			continue
		}
		switch h, _ := word.Read(x.Word); a.todo {
		case klass.Single:
			if behind[i].Word != x.Word {
				t.Fatalf("%+v: %d became %#x", q, i, behind[i].Word)
			}
		case klass.Rebias:
			owned := h.Kind == word.Biased && has(x, plan.Owner(x.Word))
			ahead := h.Kind == word.Biased && h.Epoch == class.Epoch
			if class.Valid(behind[i].Word) != (owned || ahead) {
				t.Fatalf("%+v: %d became %#x, of %+v", q, i, behind[i].Word, class)
			}
		case klass.Revoke:
			if word.Kind(behind[i].Word) == word.Biased {
				t.Fatalf("%+v: %d is %#x still", q, i, behind[i].Word)
			}
		}
	}
}

// object is one of no pattern, of so many classes, or of one that there is not.
func (n *numbers) object(classes int) plan.Object {
	x := plan.Object{Class: n.below(classes), Count: make([]int, n.below(5))}
	if n.below(20) == 0 {
		x.Class = []int{-1, classes}[n.below(2)]
	}
	for i := range x.Count {
		x.Count[i] = max(n.below(5)-2, -1)
	}
	switch n.below(12) {
	case 0:
		x.Word = neutral(uint64(n.below(16)), uint64(n.below(100)))
	case 1:
		x.Word = thin(uint64(1+n.below(4)), uint64(n.below(300)))
	case 2:
		x.Word = fat(uint64(n.below(16)), uint64(n.below(100)))
	case 3:
		x.Word = []uint64{0, 3, 4, 1 << 63}[n.below(4)]
	default:
		x.Word = bias(uint64(n.below(16)), uint64(n.below(4)+254)%256, uint64(n.below(5)))
	}
	return x
}

// class is one of no pattern.
func (n *numbers) class() klass.Class {
	return klass.Class{Biased: n.below(8) > 0, Epoch: uint8(n.below(4) + 253), Count: n.below(40)}
}

// question is one of no pattern, of so many objects and classes.
func (n *numbers) question(objects, classes int) question {
	q := question{o: n.below(objects), rebias: n.below(8) - 1, revoke: n.below(60)}
	for range objects {
		q.objects = append(q.objects, n.object(classes))
	}
	for range classes {
		q.classes = append(q.classes, n.class())
	}
	return q
}

// P19.2 to P19.5: long lists of no pattern against the second reckoning, with
// what the words behind it are.
func TestLongLists(t *testing.T) {
	n := numbers(190)
	for _, x := range [][3]int{{1, 1, 300}, {2, 2, 1500}, {8, 4, 3000}, {40, 3, 1500}, {256, 1, 300}, {256, 5, 600}, {100, 256, 300}, {256, 256, 300}} {
		times := map[int]int{}
		wrong, changes := 0, 0
		for range x[2] {
			a := looked(t, n.question(x[0], x[1]))
			if a.err != api.OK {
				wrong++
				continue
			}
			times[a.todo]++
			changes += len(a.changes)
		}
		if times[0] < 20 || times[1] < 20 || times[2] < 20 || wrong < 5 || changes < 100 {
			t.Errorf("%v: %v, %d were refused, there were %d changes", x, times, wrong, changes)
		}
	}
}

// P19.2 to P19.5: one revocation behind the other, each of the objects and the
// classes that the one ahead left, until no object is Biased any more.
func TestOneBehindTheOther(t *testing.T) {
	n := numbers(7)
	for range 30 {
		q := question{rebias: 3, revoke: 11}
		for i := range 60 {
			q.objects = append(q.objects, plan.Object{Class: i % 3, Word: bias(uint64(i%16), 0, uint64(i%4)), Count: []int{i / 3 % 2, i / 5 % 3, 1}})
		}
		q.classes = []klass.Class{{Biased: true}, {Biased: true}, {Biased: true}}
		kinds := map[int]int{}
		for range 200 {
			q.o = n.below(len(q.objects))
			a := looked(t, q)
			if a.err != api.OK {
				t.Fatalf("Revoke of %+v is %d", q, a.err)
			}
			kinds[a.todo]++
			q.objects, q.classes = q.behind(a.changes), a.classes
		}
		if kinds[klass.Rebias] != 9 || kinds[klass.Revoke] != 3 || kinds[klass.Single] != 188 {
			t.Fatalf("they were %v", kinds)
		}
		for i, x := range q.objects {
			if word.Kind(x.Word) == word.Biased || q.classes[x.Class].Biased || q.classes[x.Class].Epoch != 3 {
				t.Fatalf("%d is %#x, of %+v", i, x.Word, q.classes[x.Class])
			}
		}
	}
}
