package lock_test

import (
	"math"
	"testing"

	"futtock/lock"
)

// threads are such as there may be, the least and the greatest among them.
var threads = []int{0, 1, 2, 3, 7, 8, 254, 255, 256, 32766, 32767, 32768, 65533, 65534}

// wrongThreads are such as there may not be; all but -1 may not stand in a
// word either. Some of them have the lowest bits of a thread.
var wrongThreads = []int{
	-1, -2, -3, -65535, -65536, -65537, 65535, 65536, 65537, 65538, 65539, 1 << 17, 1<<31 - 1, 1 << 31,
	1<<32 - 1, 1 << 32, 1<<32 + 3, -1 << 32, 3 - 1<<32, math.MinInt, math.MinInt + 1, math.MaxInt - 1, math.MaxInt,
}

// besides are bits that are no word's.
var besides = []uint64{
	1 << 32, 1 << 33, 1 << 40, 1 << 47, 1 << 48, 1 << 62, 1 << 63, 1<<32 | 1<<63, 0xffffffff00000000,
}

// mayStand are the threads, and nobody.
func mayStand() []int {
	return append([]int{-1}, threads...)
}

// all are threads, right ones and wrong ones.
func all() []int {
	return append(append([]int{}, threads...), wrongThreads...)
}

// word is one of an owner and a head, made by arithmetic.
func word(owner, head int) uint64 {
	return uint64(head+1)*65536 + uint64(owner+1)
}

// eachWord hands on words of all owners and heads, and those with bits beside.
func eachWord(do func(w uint64)) {
	for _, owner := range mayStand() {
		for _, head := range mayStand() {
			w := word(owner, head)
			do(w)
			for _, b := range besides {
				do(w | b)
			}
		}
	}
}

// eachPattern hands on words of no pattern, whole and cut to 34 bits.
func eachPattern(do func(w uint64)) {
	w := uint64(4)
	for range 20000 {
		w = w*6364136223846793005 + 1442695040888963407
		do(w)
		do(w >> 32)
		do(w >> 30)
	}
}

// slow is a word as it should be told: two threads by arithmetic, and whether
// it is one.
type slow struct {
	owner, head int
	is          bool
}

func slowRead(w uint64) slow {
	if w >= 4294967296 {
		return slow{-1, -1, false}
	}
	return slow{int(w%65536) - 1, int(w/65536) - 1, true}
}

// thread tells whether it is one.
func thread(t int) bool {
	return 0 <= t && t <= 65534
}

// turned is what a call should answer: the word of these threads, if may.
func turned(owner, head int, may bool) (uint64, bool) {
	if !may {
		return 0, false
	}
	return word(owner, head), true
}

func slowTake(w uint64, t int) (uint64, bool) {
	s := slowRead(w)
	return turned(t, s.head, s.is && thread(t) && s.owner == -1)
}

func slowPush(w uint64, t int) (uint64, bool) {
	s := slowRead(w)
	return turned(s.owner, t, s.is && thread(t) && s.owner != -1 && s.owner != t && s.head != t)
}

func slowDrain(w uint64, t int) (uint64, bool) {
	s := slowRead(w)
	return turned(s.owner, -1, s.is && thread(t) && s.owner == t && s.head != -1)
}

func slowHand(w uint64, t, u int) (uint64, bool) {
	s := slowRead(w)
	return turned(u, s.head, s.is && thread(t) && thread(u) && s.owner == t && u != t)
}

func slowRelease(w uint64, t int) (uint64, bool) {
	s := slowRead(w)
	return turned(-1, -1, s.is && thread(t) && s.owner == t && s.head == -1)
}

// turn is one of the calls that turn a word, by its name.
type turn struct {
	name string
	call func(w uint64, t int) (uint64, bool)
	slow func(w uint64, t int) (uint64, bool)
}

// turns are those of a word and a thread, and Hand to each thread of to.
func turns(to ...int) []turn {
	list := []turn{
		{"Take", lock.Take, slowTake},
		{"Push", lock.Push, slowPush},
		{"Drain", lock.Drain, slowDrain},
		{"Release", lock.Release, slowRelease},
	}
	for _, u := range to {
		list = append(list, turn{"Hand",
			func(w uint64, t int) (uint64, bool) { return lock.Hand(w, t, u) },
			func(w uint64, t int) (uint64, bool) { return slowHand(w, t, u) },
		})
	}
	return list
}

// expect tells a call that did not answer what it should.
func expect(t *testing.T, what string, w uint64, ok bool, wantWord uint64, wantOK bool) {
	t.Helper()
	if w != wantWord || ok != wantOK {
		t.Errorf("%s is %#x, %v, not %#x, %v", what, w, ok, wantWord, wantOK)
	}
}

// The document's examples.
func TestExamples(t *testing.T) {
	w, ok := lock.Take(0, 3)
	expect(t, "Take(0, 3)", w, ok, 4, true)
	w, ok = lock.Push(4, 0)
	expect(t, "Push(4, 0)", w, ok, 65540, true)
}

// P4.1: Make of written-out words, which tell their threads again.
func TestMake(t *testing.T) {
	for _, c := range []struct {
		owner, head int
		w           uint64
	}{
		{-1, -1, 0}, {0, -1, 1}, {1, -1, 2}, {3, -1, 4}, {65533, -1, 0xfffe}, {65534, -1, 0xffff},
		{-1, 0, 0x10000}, {-1, 1, 0x20000}, {-1, 9, 0xa0000}, {-1, 65533, 0xfffe0000}, {-1, 65534, 0xffff0000},
		{0, 0, 0x10001}, {3, 0, 0x10004}, {0, 3, 0x40001}, {5, 6, 0x70006}, {7, 7, 0x80008},
		{0, 65534, 0xffff0001}, {65534, 0, 0x1ffff}, {65534, 65534, 0xffffffff}, {255, 256, 0x1010100},
	} {
		w, ok := lock.Make(c.owner, c.head)
		if w != c.w || !ok {
			t.Errorf("Make(%d, %d) is %#x, %v, not %#x", c.owner, c.head, w, ok, c.w)
		}
		if owner, head := lock.Owner(c.w), lock.Head(c.w); owner != c.owner || head != c.head {
			t.Errorf("%#x: Owner is %d, Head is %d, not %d and %d", c.w, owner, head, c.owner, c.head)
		}
		if free := lock.Free(c.w); free != (c.owner == -1) {
			t.Errorf("%#x: Free is %v", c.w, free)
		}
	}
}

// P4.1: Make of one that is neither a thread nor -1, beside each that may be.
func TestMakeOfWrongThreads(t *testing.T) {
	refused := func(owner, head int) {
		if w, ok := lock.Make(owner, head); w != 0 || ok {
			t.Errorf("Make(%d, %d) is %#x, %v", owner, head, w, ok)
		}
	}
	for _, wrong := range wrongThreads {
		if wrong == -1 {
			continue
		}
		for _, right := range mayStand() {
			refused(wrong, right)
			refused(right, wrong)
		}
		for _, other := range wrongThreads {
			refused(wrong, other)
		}
	}
}

// P4.1: a word with a bit above bit 31 is none: nobody owns it, and it is not
// free either.
func TestNoWord(t *testing.T) {
	for _, low := range []uint64{0, 1, 4, 0x10000, 0x10004, 0xffff, 0xffff0000, 0xffffffff} {
		for bit := 32; bit < 64; bit++ {
			w := low | 1<<bit
			if owner, head, free := lock.Owner(w), lock.Head(w), lock.Free(w); owner != -1 || head != -1 || free {
				t.Errorf("%#x: Owner is %d, Head is %d, Free is %v", w, owner, head, free)
			}
		}
	}
}

// P4.2: what each call makes of words of nobody, of an owner, of a head and of
// both, by the owner 3, by the head 6 and by others, by threads at their ends
// and by none; all written out.
func TestTurns(t *testing.T) {
	const (
		nothing = 0       // nobody, none
		owned   = 0x00004 // 3, none
		headed  = 0x70000 // nobody, 6
		both    = 0x70004 // 3, 6
	)
	type want struct {
		w  uint64
		ok bool
	}
	no := want{}
	for _, c := range []struct {
		w                          uint64
		thread                     int
		take, push, drain, release want
	}{
		{nothing, 3, want{0x4, true}, no, no, no},
		{nothing, 6, want{0x7, true}, no, no, no},
		{nothing, 9, want{0xa, true}, no, no, no},
		{nothing, 0, want{0x1, true}, no, no, no},
		{nothing, 65534, want{0xffff, true}, no, no, no},
		{nothing, -1, no, no, no, no},
		{nothing, 65535, no, no, no, no},

		{owned, 3, no, no, no, want{0, true}},
		{owned, 6, no, want{0x70004, true}, no, no},
		{owned, 9, no, want{0xa0004, true}, no, no},
		{owned, 0, no, want{0x10004, true}, no, no},
		{owned, 65534, no, want{0xffff0004, true}, no, no},
		{owned, -1, no, no, no, no},
		{owned, 65535, no, no, no, no},

		{headed, 3, want{0x70004, true}, no, no, no},
		{headed, 6, want{0x70007, true}, no, no, no},
		{headed, 9, want{0x7000a, true}, no, no, no},
		{headed, 0, want{0x70001, true}, no, no, no},
		{headed, 65534, want{0x7ffff, true}, no, no, no},
		{headed, -1, no, no, no, no},
		{headed, 65535, no, no, no, no},

		{both, 3, no, no, want{0x4, true}, no},
		{both, 6, no, no, no, no},
		{both, 9, no, want{0xa0004, true}, no, no},
		{both, 0, no, want{0x10004, true}, no, no},
		{both, 65534, no, want{0xffff0004, true}, no, no},
		{both, -1, no, no, no, no},
		{both, 65535, no, no, no, no},

		// The least thread and the greatest one, as owners and as heads.
		{0x1, 0, no, no, no, want{0, true}},
		{0xffff, 65534, no, no, no, want{0, true}},
		{0xffff0001, 0, no, no, want{0x1, true}, no},
		{0xffff0001, 65534, no, no, no, no},
		{0x1ffff, 65534, no, no, want{0xffff, true}, no},
		{0x1ffff, 0, no, no, no, no},
		{0xffff0000, 0, want{0xffff0001, true}, no, no, no},
		{0x10000, 65534, want{0x1ffff, true}, no, no, no},

		// One who is the owner and the head.
		{0x40004, 3, no, no, want{0x4, true}, no},
		{0x40004, 6, no, want{0x70004, true}, no, no},

		// No words: owned, and not, beside a bit above bit 31.
		{0x100000000, 3, no, no, no, no},
		{0x100000004, 3, no, no, no, no},
		{0x100000004, 6, no, no, no, no},
		{0x100070004, 3, no, no, no, no},
		{1<<63 | 0x4, 3, no, no, no, no},
		{1 << 63, 3, no, no, no, no},
	} {
		for i, want := range []want{c.take, c.push, c.drain, c.release} {
			call := turns()[i]
			if w, ok := call.call(c.w, c.thread); w != want.w || ok != want.ok {
				t.Errorf("%s(%#x, %d) is %#x, %v, not %#x, %v", call.name, c.w, c.thread, w, ok, want.w, want.ok)
			}
		}
	}
}

// P4.2: Hand by the owner, to others, to itself and to none, and by those who
// do not own; all written out.
func TestHand(t *testing.T) {
	for _, c := range []struct {
		w          uint64
		thread, to int
		want       uint64
		ok         bool
	}{
		{0x4, 3, 6, 0x7, true},
		{0x4, 3, 0, 0x1, true},
		{0x4, 3, 65534, 0xffff, true},
		{0x70004, 3, 6, 0x70007, true},
		{0x70004, 3, 9, 0x7000a, true},
		{0x1, 0, 65534, 0xffff, true},
		{0xffff, 65534, 0, 0x1, true},
		{0xffff0001, 0, 65534, 0xffffffff, true},
		{0x1ffff, 65534, 0, 0x10001, true},

		{0x4, 3, 3, 0, false},
		{0x70004, 3, 3, 0, false},
		{0x1, 0, 0, 0, false},
		{0xffff, 65534, 65534, 0, false},
		{0x4, 3, -1, 0, false},
		{0x70004, 3, -1, 0, false},
		{0x4, 3, -2, 0, false},
		{0x4, 3, 65535, 0, false},
		{0x4, 3, 65542, 0, false},
		{0x4, 3, math.MaxInt, 0, false},
		{0x4, 3, math.MinInt, 0, false},

		{0x4, 6, 3, 0, false},
		{0x4, 6, 9, 0, false},
		{0x70004, 6, 9, 0, false},
		{0x70004, 6, 3, 0, false},
		{0x70004, 9, 6, 0, false},
		{0x0, 3, 6, 0, false},
		{0x70000, 3, 6, 0, false},
		{0x70000, 6, 3, 0, false},
		{0x0, -1, 3, 0, false},
		{0x70000, -1, 3, 0, false},
		{0x0, -1, -1, 0, false},
		{0x4, 65539, 6, 0, false},

		{0x100000004, 3, 6, 0, false},
		{1<<63 | 0x70004, 3, 6, 0, false},
	} {
		if w, ok := lock.Hand(c.w, c.thread, c.to); w != c.want || ok != c.ok {
			t.Errorf("Hand(%#x, %d, %d) is %#x, %v, not %#x, %v", c.w, c.thread, c.to, w, ok, c.want, c.ok)
		}
	}
}

// P4.1, P4.2: all calls of all words and threads together, against what
// arithmetic tells.
func TestAgainstArithmetic(t *testing.T) {
	calls := turns(all()...)
	eachWord(func(w uint64) {
		checkRead(t, w)
		for _, by := range all() {
			for _, c := range calls {
				checkTurn(t, c, w, by)
			}
		}
	})
	few := turns(0, 3, 65534, -1, 65535)
	eachPattern(func(w uint64) {
		checkRead(t, w)
		s := slowRead(w)
		for _, by := range []int{s.owner, s.head, s.owner + 1, 0, 65534, -1} {
			for _, c := range few {
				checkTurn(t, c, w, by)
			}
		}
	})
}

func checkRead(t *testing.T, w uint64) {
	t.Helper()
	s := slowRead(w)
	owner, head, free := lock.Owner(w), lock.Head(w), lock.Free(w)
	if owner != s.owner || head != s.head || free != (s.is && s.owner == -1) {
		t.Fatalf("%#x: Owner is %d, Head is %d, Free is %v", w, owner, head, free)
	}
}

func checkTurn(t *testing.T, c turn, w uint64, by int) {
	t.Helper()
	want, may := c.slow(w, by)
	if got, ok := c.call(w, by); got != want || ok != may {
		t.Fatalf("%s(%#x, %d) is %#x, %v, not %#x, %v", c.name, w, by, got, ok, want, may)
	}
}

// P4.3: a word is what its owner and head tell, and no two have one word.
func TestWordIsItsParts(t *testing.T) {
	seen := map[uint64][2]int{}
	for _, owner := range mayStand() {
		for _, head := range mayStand() {
			w, ok := lock.Make(owner, head)
			if other, there := seen[w]; there || !ok {
				t.Fatalf("Make(%d, %d) is %#x, %v, as of %v", owner, head, w, ok, other)
			}
			seen[w] = [2]int{owner, head}
		}
	}
	again := func(w uint64) {
		made, ok := lock.Make(lock.Owner(w), lock.Head(w))
		if w >= 1<<32 {
			// Of none the parts are nobody and none, whose word is 0.
			w = 0
		}
		if made != w || !ok {
			t.Fatalf("%#x: its owner and head make %#x, %v", w, made, ok)
		}
	}
	eachWord(again)
	eachPattern(again)
}

// P4.3: what a call makes is a word, and hangs on the owner and head alone;
// the same call answers the same again (R3).
func TestTurnedIsWord(t *testing.T) {
	calls := turns(threads...)
	eachWord(func(w uint64) {
		for _, by := range threads {
			for _, c := range calls {
				got, ok := c.call(w, by)
				if made, may := lock.Make(lock.Owner(got), lock.Head(got)); made != got || !may {
					t.Fatalf("%s(%#x, %d) is %#x, which is no word", c.name, w, by, got)
				}
				if again, may := c.call(w, by); again != got || may != ok {
					t.Fatalf("%s(%#x, %d) is %#x, then %#x", c.name, w, by, got, again)
				}
			}
		}
	})
}

// P4.4: the owner is turned by Take, Hand and Release alone, the head by Push
// and Drain alone; each of those that is done does turn it.
func TestWhoTurnsWhat(t *testing.T) {
	done := map[string]int{}
	eachWord(func(w uint64) {
		for _, by := range threads {
			for _, c := range turns(threads...) {
				got, ok := c.call(w, by)
				if !ok {
					continue
				}
				done[c.name]++
				turnsHead := c.name == "Push" || c.name == "Drain"
				if (lock.Owner(got) != lock.Owner(w)) == turnsHead {
					t.Fatalf("%s(%#x, %d) is %#x: its owner", c.name, w, by, got)
				}
				if (lock.Head(got) != lock.Head(w)) != turnsHead {
					t.Fatalf("%s(%#x, %d) is %#x: its head", c.name, w, by, got)
				}
			}
		}
	})
	for _, c := range turns(0) {
		if done[c.name] == 0 {
			t.Errorf("%s was never done", c.name)
		}
	}
}

// P4.2, P4.4: a monitor that is taken, waited for by three, drained, and
// handed on till nobody is left.
func TestOneAfterAnother(t *testing.T) {
	w := uint64(0)
	for _, s := range []struct {
		name string
		call func() (uint64, bool)
		want uint64
		ok   bool
	}{
		{"0 takes", func() (uint64, bool) { return lock.Take(w, 0) }, 0x1, true},
		{"1 takes", func() (uint64, bool) { return lock.Take(w, 1) }, 0, false},
		{"1 comes", func() (uint64, bool) { return lock.Push(w, 1) }, 0x20001, true},
		{"2 comes", func() (uint64, bool) { return lock.Push(w, 2) }, 0x30001, true},
		{"2 comes again", func() (uint64, bool) { return lock.Push(w, 2) }, 0, false},
		{"0 releases", func() (uint64, bool) { return lock.Release(w, 0) }, 0, false},
		{"0 drains", func() (uint64, bool) { return lock.Drain(w, 0) }, 0x1, true},
		{"0 drains again", func() (uint64, bool) { return lock.Drain(w, 0) }, 0, false},
		{"65534 comes", func() (uint64, bool) { return lock.Push(w, 65534) }, 0xffff0001, true},
		{"0 hands on", func() (uint64, bool) { return lock.Hand(w, 0, 1) }, 0xffff0002, true},
		{"0 hands on again", func() (uint64, bool) { return lock.Hand(w, 0, 2) }, 0, false},
		{"1 drains", func() (uint64, bool) { return lock.Drain(w, 1) }, 0x2, true},
		{"1 hands on", func() (uint64, bool) { return lock.Hand(w, 1, 65534) }, 0xffff, true},
		{"1 releases", func() (uint64, bool) { return lock.Release(w, 1) }, 0, false},
		{"65534 releases", func() (uint64, bool) { return lock.Release(w, 65534) }, 0, true},
		{"65534 releases again", func() (uint64, bool) { return lock.Release(w, 65534) }, 0, false},
	} {
		got, ok := s.call()
		expect(t, s.name, got, ok, s.want, s.ok)
		if ok {
			w = got
		}
	}
	if !lock.Free(w) {
		t.Errorf("%#x is left", w)
	}
}
