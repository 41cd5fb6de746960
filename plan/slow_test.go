package plan_test

import (
	"slices"
	"testing"

	"futtock/api"
	"futtock/klass"
	"futtock/plan"
)

// bias is a Biased word, made by arithmetic, as those below are.
func bias(age, epoch, owner uint64) uint64 { return owner*16777216 + epoch*256 + age*8 + 5 }

func thin(owner, record uint64) uint64 { return owner*16777216 + record*256 }

func neutral(age, hash uint64) uint64 { return hash*256 + age*8 + 1 }

func fat(slot, gen uint64) uint64 { return gen*16777216 + slot*256 + 2 }

// parts are those of a Biased word, taken apart by arithmetic; false, if it is
// none.
func parts(w uint64) (age, epoch, owner uint64, ok bool) {
	age, epoch, owner = w/8%16, w/256%256, w/16777216%65536
	return age, epoch, owner, bias(age, epoch, owner) == w
}

// slowOwner is the thread that a word tells, put together anew of what it would
// be of.
func slowOwner(w uint64) int {
	owner, record := w/16777216%65536, w/256%65536
	if _, _, _, ok := parts(w); ok || owner > 0 && thin(owner, record) == w {
		return int(owner) - 1
	}
	return -1
}

// has tells whether a thread has a record of an object.
func has(x plan.Object, thread int) bool {
	for i, n := range x.Count {
		if i == thread {
			return n >= 1
		}
	}
	return false
}

// slowOne is what One should answer.
func slowOne(o int, x plan.Object) (plan.Change, bool) {
	age, _, owner, ok := parts(x.Word)
	if !ok || o < 0 || o >= 65536 {
		return plan.Change{}, false
	}
	if owner > 0 && has(x, int(owner)-1) {
		return plan.Change{Obj: o, Word: thin(owner, uint64(o)), Owner: int(owner) - 1, Saved: neutral(age, 0)}, true
	}
	return plan.Change{Obj: o, Word: neutral(age, 0), Owner: -1}, true
}

// slowFresh is what becomes of an object that is not revoked, as its class has
// another epoch.
func slowFresh(o int, x plan.Object, epoch uint8) (plan.Change, bool) {
	age, _, owner, ok := parts(x.Word)
	if !ok || owner == 0 || !has(x, int(owner)-1) {
		return plan.Change{}, false
	}
	return plan.Change{Obj: o, Word: bias(age, uint64(epoch), owner), Owner: int(owner) - 1}, true
}

// slowClass is a class behind a revocation, and what was to be done.
func slowClass(c klass.Class, rebias, revoke int) (int, klass.Class) {
	if c.Count < 1000 {
		c.Count++
	}
	if c.Biased && revoke <= c.Count {
		c.Biased = false
		return 2, c
	}
	if c.Biased && (rebias <= 1 || c.Count%rebias == 0) {
		c.Epoch = uint8((int(c.Epoch) + 1) % 256)
		return 1, c
	}
	return 0, c
}

// answer is all that Revoke answers.
type answer struct {
	todo    int
	classes []klass.Class
	changes []plan.Change
	err     api.Errno
}

func (a answer) same(b answer) bool {
	return a.todo == b.todo && a.err == b.err && slices.Equal(a.classes, b.classes) && slices.Equal(a.changes, b.changes)
}

// question is all that Revoke is asked with.
type question struct {
	objects        []plan.Object
	classes        []klass.Class
	o              int
	rebias, revoke int
}

func (q question) ask() answer {
	todo, classes, changes, err := plan.Revoke(q.objects, q.classes, q.o, q.rebias, q.revoke)
	return answer{todo, classes, changes, err}
}

// copied shares nothing with it.
func (q question) copied() question {
	q.classes = slices.Clone(q.classes)
	q.objects = slices.Clone(q.objects)
	for i := range q.objects {
		q.objects[i].Count = slices.Clone(q.objects[i].Count)
	}
	return q
}

func (q question) same(p question) bool {
	sameObject := func(x, y plan.Object) bool {
		return x.Word == y.Word && x.Class == y.Class && slices.Equal(x.Count, y.Count)
	}
	return q.o == p.o && q.rebias == p.rebias && q.revoke == p.revoke &&
		slices.Equal(q.classes, p.classes) && slices.EqualFunc(q.objects, p.objects, sameObject)
}

// slow is a second reckoning: each object is asked what becomes of it, from the
// last one on, and those that are turned are sorted by their turns.
func (q question) slow() answer {
	none := answer{err: api.ErrArg}
	if q.o < 0 || q.o >= len(q.objects) || len(q.objects) >= 257 || len(q.classes) >= 257 {
		return none
	}
	of := q.objects[q.o].Class
	if of < 0 || of >= len(q.classes) {
		return none
	}
	a := answer{classes: slices.Clone(q.classes)}
	a.todo, a.classes[of] = slowClass(q.classes[of], q.rebias, q.revoke)
	turn := func(obj int) int {
		if a.todo == 1 && obj == q.o {
			return 1000
		}
		return obj
	}
	for obj, x := range slices.Backward(q.objects) {
		change, ok := plan.Change{}, false
		switch {
		case obj == q.o, a.todo == 2 && x.Class == of:
			change, ok = slowOne(obj, x)
		case a.todo == 1 && x.Class == of:
			change, ok = slowFresh(obj, x, a.classes[of].Epoch)
		}
		if ok && change.Word != x.Word {
			a.changes = append(a.changes, change)
		}
	}
	slices.SortFunc(a.changes, func(x, y plan.Change) int { return turn(x.Obj) - turn(y.Obj) })
	return a
}

// answers asks, twice, and tells of another answer than that one, and of what was
// written into what was handed in.
func answers(t *testing.T, q question, want answer) {
	t.Helper()
	was := q.copied()
	for range 2 {
		if got := q.ask(); !got.same(want) {
			t.Fatalf("Revoke of %+v\nis %+v,\nnot %+v", was, got, want)
		}
		if !q.same(was) {
			t.Fatalf("%+v became %+v", was, q)
		}
	}
}

// agrees holds an answer against the second reckoning.
func agrees(t *testing.T, q question) answer {
	t.Helper()
	want := q.slow()
	answers(t, q, want)
	return want
}

// behind are the objects with what was told of them done.
func (q question) behind(changes []plan.Change) []plan.Object {
	objects := q.copied().objects
	for _, c := range changes {
		objects[c.Obj].Word = c.Word
	}
	return objects
}
