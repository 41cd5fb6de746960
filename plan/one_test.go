package plan_test

import (
	"math"
	"testing"

	"futtock/plan"
)

// far are no objects, though some have the lowest bits of one.
var far = []int{1 << 32, 1<<32 + 1, -1 << 32, 1<<40 + 3, math.MaxInt, math.MaxInt - 1, math.MinInt, math.MinInt + 1}

// notBiased are words of the other kinds, and such as are no header's: lowest
// bits that are no kind's, a Thin one of nobody, a bit beside the fields.
func notBiased() []uint64 {
	l := []uint64{0}
	for _, n := range []uint64{0, 1, 2, 5, 255, 65535} {
		l = append(l, thin(1, n), thin(2, n), thin(3, n), thin(65535, n))
		l = append(l, neutral(0, n), neutral(15, n), fat(n, 0), fat(0, n), fat(n, n))
	}
	l = append(l, neutral(15, 1<<31-1), fat(65535, 1<<24-1))
	for _, low := range []uint64{3, 4, 6, 7} {
		l = append(l, low, bias(0, 0, 1)-5+low, bias(15, 255, 65535)-5+low)
	}
	l = append(l, 1<<8, 0xff00, math.MaxUint64, thin(1, 0)|1<<7, thin(1, 0)|1<<40, neutral(0, 0)|1<<7, neutral(0, 0)|1<<39, fat(0, 0)|8, fat(0, 0)|1<<48)
	for _, bit := range []int{7, 16, 17, 23, 40, 41, 63} {
		l = append(l, bias(0, 0, 0)|1<<bit, bias(0, 0, 1)|1<<bit, bias(15, 255, 65535)|1<<bit)
	}
	return l
}

// counted has records of one thread alone, in a list of so many threads.
func counted(threads, thread, count int) []int {
	l := make([]int, threads)
	l[thread] = count
	return l
}

// one tells of a One that is not that change.
func one(t *testing.T, o int, x plan.Object, want plan.Change) {
	t.Helper()
	for range 2 {
		if c, ok := plan.One(o, x); c != want || !ok {
			t.Fatalf("One(%d, %#x of %d threads) is %+v, %v, not %+v", o, x.Word, len(x.Count), c, ok, want)
		}
	}
}

// oneNone tells of a One that is a change.
func oneNone(t *testing.T, o int, x plan.Object) {
	t.Helper()
	for range 2 {
		if c, ok := plan.One(o, x); c != (plan.Change{}) || ok {
			t.Fatalf("One(%d, %#x of %d threads) is %+v, %v", o, x.Word, len(x.Count), c, ok)
		}
	}
}

// P19.1: owners of words that are written out.
func TestOwner(t *testing.T) {
	for _, x := range []struct {
		w     uint64
		owner int
	}{
		// Biased.
		{5, -1},
		{0x7d, -1},
		{0xff05, -1},
		{0xff7d, -1},
		{0x1000005, 0},
		{0x100ff7d, 0},
		{0x2000005, 1},
		{0x300020d, 2},
		{0x800000000d, 32767},
		{0xffff000005, 65534},
		{0xffff00ff7d, 65534},
		// Thin.
		{0x1000000, 0},
		{0x1000100, 0},
		{0x1ffff00, 0},
		{0x2000000, 1},
		{0x3000500, 2},
		{0xffff000000, 65534},
		{0xffffffff00, 65534},
		// Of the other kinds, which have an owner's bits for something else.
		{0, -1},
		{1, -1},
		{0x1000001, -1},
		{0x7fffffff79, -1},
		{2, -1},
		{0x1000002, -1},
		{0xffffffffff02, -1},
		// No header's.
		{3, -1},
		{0x1000003, -1},
		{4, -1},
		{0x1000004, -1},
		{0x1000006, -1},
		{0x1000007, -1},
		{0x100, -1},
		{0xffff00, -1},
		{0x1000085, -1},
		{0x1010005, -1},
		{0x10001000005, -1},
		{0x1000080, -1},
		{0x1000008, -1},
		{0x10001000000, -1},
		{math.MaxUint64, -1},
	} {
		for range 2 {
			if got := plan.Owner(x.w); got != x.owner {
				t.Errorf("the owner of %#x is %d, not %d", x.w, got, x.owner)
			}
		}
	}
}

// P19.1: all owners, of Biased words of many epochs and ages, and of Thin words
// of many records.
func TestAllOwners(t *testing.T) {
	for owner := range uint64(65536) {
		words := []uint64{bias(0, 0, owner), bias(15, 255, owner), bias(owner%16, owner/16%256, owner)}
		if owner > 0 {
			words = append(words, thin(owner, 0), thin(owner, 65535), thin(owner, owner), thin(owner, 65536-owner))
		}
		for _, w := range words {
			if got := plan.Owner(w); got != int(owner)-1 {
				t.Fatalf("the owner of %#x is %d, not %d", w, got, int(owner)-1)
			}
		}
	}
}

// P19.1: words of the other kinds, and those that are no header's, tell none,
// but Thin ones.
func TestOwnerOfOtherWords(t *testing.T) {
	none := 0
	for _, w := range notBiased() {
		if got := plan.Owner(w); got != slowOwner(w) {
			t.Errorf("the owner of %#x is %d, not %d", w, got, slowOwner(w))
		}
		if plan.Owner(w) == -1 {
			none++
		}
	}
	if none < 60 {
		t.Errorf("just %d have no owner", none)
	}
}

// P19.1: One of words and counts that are written out; the first ones are those
// of the document's example.
func TestOne(t *testing.T) {
	for _, x := range []struct {
		o     int
		w     uint64
		count []int
		want  plan.Change
	}{
		{0, 0x1000005, []int{0}, plan.Change{Obj: 0, Word: 1, Owner: -1}},
		{0, 0x1000005, []int{0, 1}, plan.Change{Obj: 0, Word: 1, Owner: -1}},
		{0, 0x1000005, []int{1}, plan.Change{Obj: 0, Word: 0x1000000, Owner: 0, Saved: 1}},
		{3, 0x1000005, []int{60}, plan.Change{Obj: 3, Word: 0x1000300, Owner: 0, Saved: 1}},
		{3, 0x300020d, []int{0, 0, 1}, plan.Change{Obj: 3, Word: 0x3000300, Owner: 2, Saved: 9}},
		{3, 0x300020d, []int{5, 5, 0, 5}, plan.Change{Obj: 3, Word: 9, Owner: -1}},
		{3, 0x300020d, []int{5, 5}, plan.Change{Obj: 3, Word: 9, Owner: -1}},
		{3, 0x300020d, nil, plan.Change{Obj: 3, Word: 9, Owner: -1}},
		{3, 0x300020d, []int{0, 0, -1}, plan.Change{Obj: 3, Word: 9, Owner: -1}},
		{3, 0x300020d, []int{-1, -1, 2, -1}, plan.Change{Obj: 3, Word: 0x3000300, Owner: 2, Saved: 9}},
		{7, 5, nil, plan.Change{Obj: 7, Word: 1, Owner: -1}},
		{7, 0xff7d, []int{1, 1, 1}, plan.Change{Obj: 7, Word: 0x79, Owner: -1}},
		{65535, 0x2001045, []int{0, 2}, plan.Change{Obj: 65535, Word: 0x2ffff00, Owner: 1, Saved: 0x41}},
		{65535, 0x2001045, []int{2, 0}, plan.Change{Obj: 65535, Word: 0x41, Owner: -1}},
	} {
		one(t, x.o, plan.Object{Word: x.w, Count: x.count}, x.want)
		one(t, x.o, plan.Object{Word: x.w, Count: x.count, Class: -5}, x.want)
		one(t, x.o, plan.Object{Word: x.w, Count: x.count, Class: math.MaxInt}, x.want)
	}
}

// P19.1: One of all Ages and epochs, of some owners, with a record and without
// one: the Age stays, the epoch does not.
func TestOneOfAllAgesAndEpochs(t *testing.T) {
	for age := range uint64(16) {
		for epoch := range uint64(256) {
			for _, owner := range []uint64{1, 2, 8} {
				w := bias(age, epoch, owner)
				mine, thread := neutral(age, 0), int(owner)-1
				held := plan.Object{Word: w, Count: counted(8, thread, 1+int(epoch))}
				one(t, 6, held, plan.Change{Obj: 6, Word: thin(owner, 6), Owner: thread, Saved: mine})
				others := []int{1, 1, 1, 1, 1, 1, 1, 1}
				others[thread] = 0
				one(t, 6, plan.Object{Word: w, Count: others}, plan.Change{Obj: 6, Word: mine, Owner: -1})
			}
			x := plan.Object{Word: bias(age, epoch, 0), Count: []int{1, 2, 3}}
			one(t, 6, x, plan.Change{Obj: 6, Word: neutral(age, 0), Owner: -1})
		}
	}
}

// P19.1: One of objects at both ends, and of such as are none.
func TestOneOfObjects(t *testing.T) {
	held := plan.Object{Word: bias(3, 4, 2), Count: []int{0, 1}}
	free := plan.Object{Word: bias(3, 4, 2), Count: []int{1, 0}}
	nobodys := plan.Object{Word: bias(3, 4, 0), Count: []int{1, 1}}
	for _, o := range []int{0, 1, 255, 256, 257, 32768, 65534, 65535} {
		one(t, o, held, plan.Change{Obj: o, Word: thin(2, uint64(o)), Owner: 1, Saved: neutral(3, 0)})
		one(t, o, free, plan.Change{Obj: o, Word: neutral(3, 0), Owner: -1})
		one(t, o, nobodys, plan.Change{Obj: o, Word: neutral(3, 0), Owner: -1})
	}
	for _, o := range append([]int{-1, -2, -65535, -65536, 65536, 65537, 131072}, far...) {
		for _, x := range []plan.Object{held, free, nobodys} {
			oneNone(t, o, x)
		}
		for _, w := range notBiased() {
			oneNone(t, o, plan.Object{Word: w, Count: []int{1, 1}})
		}
	}
}

// P19.1: a thread has a record where its count is above 0; one that the counts do
// not reach has none.
func TestOneOfCounts(t *testing.T) {
	for _, owner := range []int{1, 2, 8, 255, 256, 257, 65534, 65535} {
		thread := owner - 1
		w := bias(1, 2, uint64(owner))
		free := plan.Change{Obj: 9, Word: neutral(1, 0), Owner: -1}
		held := plan.Change{Obj: 9, Word: thin(uint64(owner), 9), Owner: thread, Saved: neutral(1, 0)}
		for _, threads := range []int{owner, owner + 1, owner + 7} {
			for _, n := range []int{1, 2, 60, 65536, 1 << 32, math.MaxInt} {
				one(t, 9, plan.Object{Word: w, Count: counted(threads, thread, n)}, held)
			}
			for _, n := range []int{0, -1, -2, -60, 1 - 1<<32, math.MinInt} {
				one(t, 9, plan.Object{Word: w, Count: counted(threads, thread, n)}, free)
			}
			if thread > 0 {
				one(t, 9, plan.Object{Word: w, Count: counted(threads, thread-1, 3)}, free)
			}
			if threads > owner {
				one(t, 9, plan.Object{Word: w, Count: counted(threads, thread+1, 3)}, free)
			}
		}
		ahead := make([]int, thread)
		for i := range ahead {
			ahead[i] = 5
		}
		one(t, 9, plan.Object{Word: w, Count: ahead}, free)
		one(t, 9, plan.Object{Word: w, Count: append(ahead, 5)[:thread]}, free)
		one(t, 9, plan.Object{Word: w}, free)
		one(t, 9, plan.Object{Word: w, Count: []int{}}, free)
	}
}

// P19.1: of words that are not Biased there is no change, whoever has records.
func TestOneOfOtherWords(t *testing.T) {
	for _, w := range notBiased() {
		for _, count := range [][]int{nil, {0}, {1}, {1, 1, 1, 1}, {-1, 0, 60}} {
			for _, o := range []int{0, 1, 5, 65535} {
				oneNone(t, o, plan.Object{Word: w, Count: count})
			}
		}
	}
}

// P19.1: Owner and One of words of no pattern, and of such with up to two bits
// turned, against the second reckoning.
func TestWordsOfNoPattern(t *testing.T) {
	check := func(w uint64) {
		t.Helper()
		if got := plan.Owner(w); got != slowOwner(w) {
			t.Fatalf("the owner of %#x is %d, not %d", w, got, slowOwner(w))
		}
		for _, count := range [][]int{nil, {1}, {0, 2}, {1, 1, 1}} {
			x := plan.Object{Word: w, Count: count}
			if want, ok := slowOne(300, x); ok {
				one(t, 300, x, want)
			} else {
				oneNone(t, 300, x)
			}
		}
	}
	for _, w := range []uint64{0, bias(0, 0, 0), bias(1, 2, 3), bias(15, 255, 65535), thin(1, 0), thin(3, 5), neutral(2, 7), fat(3, 9)} {
		for a := range 64 {
			for b := range 64 {
				check(w ^ 1<<a ^ 1<<b)
				check(w ^ 1<<a)
			}
		}
	}
	n := numbers(19)
	for range 20000 {
		w := uint64(n.below(1<<31))<<33 ^ uint64(n.below(1<<31))
		check(w)
		check(w >> 24)
		check(w>>24&^0xff0082 | 5)
		check(w>>24&^0xff0082&0x3ffff7f | 5)
		check(w >> 24 & 0x3ffff00)
	}
}
