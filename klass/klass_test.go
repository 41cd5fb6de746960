package klass_test

import (
	"math"
	"testing"

	"futtock/klass"
)

// counts are such as a class has, those at the ends among them, and such as it
// should not have.
var counts = []int{
	0, 1, 2, 3, 19, 20, 39, 40, 500, 998, 999, 1000, 1001, 1002, 4999, 1 << 32, math.MaxInt - 1, math.MaxInt,
	-1, -2, -3, -1000, -1 << 32, math.MinInt, math.MinInt + 1,
}

// limits are those that a machine may have, and such as it may not.
var limits = []int{
	1, 2, 3, 7, 20, 40, 99, 100, 101, 333, 500, 999, 1000, 1001, 1002, 1 << 32, math.MaxInt - 1, math.MaxInt,
	0, -1, -2, -20, -1000, -1 << 32, math.MinInt, math.MinInt + 1,
}

// ages and owners are the least and the greatest ones, and some between.
var (
	ages   = []uint64{0, 1, 8, 15}
	owners = []uint64{0, 1, 2, 255, 256, 0x8000, 0xffff}
)

// others are words of the other kinds, whose bits 8 to 15 are those of many
// epochs.
var others = []uint64{
	// Inflating.
	0,
	// Thin.
	1 << 24, 1<<24 | 0x100, 1<<24 | 0xff00, 0x3000500, 0xffffffff00,
	// Neutral.
	1, 0x101, 0x711, 0xff01, 0x79, 0x7fffffff79,
	// Fat.
	2, 0x102, 0xff02, 0x9000302, 0xffffffffff02,
}

// none are words that are no header: lowest bits that are no kind's, a Thin
// one of nobody, a bit beside the fields.
var none = []uint64{
	3, 4, 6, 7, 0x103, 0x104, 0xff06, 0x107, 0x1000003, 0x1000007, 1 << 8, 0xff00, 1 << 63, math.MaxUint64,
	1<<24 | 1<<7, 1<<40 | 1<<24, 1<<7 | 1, 1<<39 | 1, 1<<3 | 2, 1<<48 | 2,
	1<<7 | 5, 1<<16 | 5, 1<<20 | 5, 1<<23 | 5, 1<<40 | 5, 1<<63 | 5,
	1<<7 | 0x105, 1<<16 | 0x105, 1<<23 | 0xff05, 1<<40 | 0x300020d, 1<<63 | 0xffff00ff7d,
}

// bias is a Biased word, made by arithmetic.
func bias(age, epoch, owner uint64) uint64 {
	return owner*16777216 + epoch*256 + age*8 + 5
}

// eachBiased hands on the Biased words of an epoch.
func eachBiased(epoch int, do func(w uint64)) {
	for _, age := range ages {
		for _, owner := range owners {
			do(bias(age, uint64(epoch), owner))
		}
	}
}

// eachClass hands on the classes of all epochs, biased and not, with many
// counts.
func eachClass(do func(c klass.Class)) {
	for epoch := range 256 {
		for _, count := range counts {
			do(klass.Class{Biased: true, Epoch: uint8(epoch), Count: count})
			do(klass.Class{Epoch: uint8(epoch), Count: count})
		}
	}
}

// notBiased are the words that are not Biased.
func notBiased() []uint64 {
	return append(append([]uint64{}, others...), none...)
}

// slowFresh is a word with the lowest bits of a Biased one, taken apart by
// arithmetic, and put together with an epoch; 0 and false, if it is none.
func slowFresh(w uint64, epoch uint64) (uint64, bool) {
	age, old, owner := w/8%16, w/256%256, w/16777216%65536
	if bias(age, old, owner) != w {
		return 0, false
	}
	return bias(age, epoch, owner), true
}

// slowMultiple tells whether a number that is not great is a multiple, by
// taking off.
func slowMultiple(n, of int) bool {
	if n < 0 {
		n = -n
	}
	for n >= of {
		n -= of
	}
	return n == 0
}

// slowPolicy is what is to be done at a count that is counted already, and is
// not great.
func slowPolicy(biased bool, count, rebias, revoke int) int {
	if rebias < 1 {
		rebias = 1
	}
	if !biased {
		return 0
	}
	if revoke <= count {
		return 2
	}
	if slowMultiple(count, rebias) {
		return 1
	}
	return 0
}

// asked asks for a policy, and tells of what is not as it should be, asked
// twice.
func asked(t *testing.T, c klass.Class, rebias, revoke, todo, count int) {
	t.Helper()
	was, want := c, c
	want.Count = count
	for range 2 {
		got, counted := c.Policy(rebias, revoke)
		if got != todo || counted != want {
			t.Fatalf("the policy of %+v at %d and %d is %d, %+v, not %d, %+v", was, rebias, revoke, got, counted, todo, want)
		}
		if c != was {
			t.Fatalf("%+v became %+v", was, c)
		}
	}
}

// What is to be done are numbers that the document tells.
func TestNumbers(t *testing.T) {
	if klass.Single != 0 || klass.Rebias != 1 || klass.Revoke != 2 {
		t.Errorf("what is to be done are %d, %d, %d", klass.Single, klass.Rebias, klass.Revoke)
	}
}

// P6.1: the words of new objects, written out; the first one is the document's
// example.
func TestHeader(t *testing.T) {
	for _, x := range []struct {
		c klass.Class
		w uint64
	}{
		{klass.Class{Biased: true}, 5},
		{klass.Class{Biased: true, Epoch: 1}, 0x105},
		{klass.Class{Biased: true, Epoch: 2, Count: 17}, 0x205},
		{klass.Class{Biased: true, Epoch: 127}, 0x7f05},
		{klass.Class{Biased: true, Epoch: 128}, 0x8005},
		{klass.Class{Biased: true, Epoch: 255, Count: 1000}, 0xff05},
		{klass.Class{}, 1},
		{klass.Class{Epoch: 1}, 1},
		{klass.Class{Epoch: 255, Count: 1000}, 1},
		{klass.Class{Biased: true, Epoch: 3, Count: -1}, 0x305},
		{klass.Class{Count: -1}, 1},
	} {
		if w := x.c.Header(); w != x.w {
			t.Errorf("the word of %+v is %#x, not %#x", x.c, w, x.w)
		}
	}
}

// P6.1: the words of new objects of all epochs, biased and not, whatever was
// counted.
func TestHeaderOfEachEpoch(t *testing.T) {
	eachClass(func(c klass.Class) {
		want := uint64(1)
		if c.Biased {
			want = bias(0, uint64(c.Epoch), 0)
		}
		if w := c.Header(); w != want {
			t.Fatalf("the word of %+v is %#x, not %#x", c, w, want)
		}
	})
}

// P6.1: Valid of words that are written out.
func TestValid(t *testing.T) {
	for _, x := range []struct {
		c     klass.Class
		w     uint64
		valid bool
	}{
		{klass.Class{Biased: true}, 5, true},
		{klass.Class{Biased: true}, 0x7d, true},
		{klass.Class{Biased: true}, 0x1000005, true},
		{klass.Class{Biased: true}, 0xffff00007d, true},
		{klass.Class{Biased: true, Count: 1000}, 5, true},
		{klass.Class{Biased: true, Count: -1}, 5, true},
		{klass.Class{Biased: true, Epoch: 2}, 0x300020d, true},
		{klass.Class{Biased: true, Epoch: 255}, 0xff05, true},
		{klass.Class{Biased: true, Epoch: 255}, 0xffff00ff7d, true},

		{klass.Class{Biased: true}, 0x105, false},
		{klass.Class{Biased: true}, 0xff05, false},
		{klass.Class{Biased: true, Epoch: 1}, 5, false},
		{klass.Class{Biased: true, Epoch: 2}, 0x200030d, false},
		{klass.Class{Biased: true, Epoch: 254}, 0xff05, false},
		{klass.Class{Biased: true, Epoch: 255}, 0xfe05, false},
		{klass.Class{Biased: true, Epoch: 255}, 5, false},

		{klass.Class{}, 5, false},
		{klass.Class{}, 1, false},
		{klass.Class{Epoch: 2}, 0x300020d, false},
		{klass.Class{Epoch: 255}, 0xff05, false},

		{klass.Class{Biased: true}, 0, false},
		{klass.Class{Biased: true}, 1, false},
		{klass.Class{Biased: true}, 2, false},
		{klass.Class{Biased: true}, 0x1000000, false},
		{klass.Class{Biased: true}, 4, false},
		{klass.Class{Biased: true}, 7, false},
		{klass.Class{Biased: true}, 0x85, false},
		{klass.Class{Biased: true}, 1<<16 | 5, false},
		{klass.Class{Biased: true}, 1<<40 | 5, false},
	} {
		for range 2 {
			if got := x.c.Valid(x.w); got != x.valid {
				t.Errorf("%#x of %+v is Valid: %v", x.w, x.c, got)
			}
		}
	}
}

// P6.1: Valid of the Biased words of all epochs, each asked of classes of all
// epochs, biased and not.
func TestValidOfEachEpoch(t *testing.T) {
	for epoch := range 256 {
		eachBiased(epoch, func(w uint64) {
			for of := range 256 {
				c := klass.Class{Biased: true, Epoch: uint8(of), Count: of * 5}
				if got := c.Valid(w); got != (of == epoch) {
					t.Fatalf("%#x of %+v is Valid: %v", w, c, got)
				}
				if c.Biased = false; c.Valid(w) {
					t.Fatalf("%#x of %+v is Valid", w, c)
				}
			}
		})
	}
}

// P6.1: a word that is not Biased is Valid of no class.
func TestValidOfAnotherWord(t *testing.T) {
	eachClass(func(c klass.Class) {
		for _, w := range notBiased() {
			if c.Valid(w) {
				t.Fatalf("%#x of %+v is Valid", w, c)
			}
		}
	})
}

// P6.2: policies that are written out: a class, its limits, what is to be done
// and the Count behind it.
func TestPolicy(t *testing.T) {
	for _, x := range []struct {
		count, rebias, revoke, todo, counted int
	}{
		// A Count that is a multiple of rebias, and those beside it.
		{0, 20, 40, klass.Single, 1},
		{18, 20, 40, klass.Single, 19},
		{19, 20, 40, klass.Rebias, 20},
		{20, 20, 40, klass.Single, 21},
		{37, 20, 40, klass.Single, 38},
		// A Count of just revoke, which a multiple is as well, and those beside
		// it.
		{38, 20, 40, klass.Single, 39},
		{39, 20, 40, klass.Revoke, 40},
		{40, 20, 40, klass.Revoke, 41},
		{39, 20, 41, klass.Rebias, 40},
		{40, 20, 41, klass.Revoke, 41},
		{19, 20, 20, klass.Revoke, 20},
		{18, 20, 20, klass.Single, 19},
		{59, 20, 40, klass.Revoke, 60},
		// A rebias of 1, and below 1: each Count is a multiple.
		{0, 1, 3, klass.Rebias, 1},
		{1, 1, 3, klass.Rebias, 2},
		{2, 1, 3, klass.Revoke, 3},
		{0, 0, 3, klass.Rebias, 1},
		{1, 0, 3, klass.Rebias, 2},
		{2, 0, 3, klass.Revoke, 3},
		{1, -1, 3, klass.Rebias, 2},
		{2, -3, 100, klass.Rebias, 3},
		{4, -2, 100, klass.Rebias, 5},
		{0, math.MinInt, 2, klass.Rebias, 1},
		// A revoke below 2.
		{0, 20, 1, klass.Revoke, 1},
		{0, 20, 0, klass.Revoke, 1},
		{0, 20, -1, klass.Revoke, 1},
		{0, -1, -1, klass.Revoke, 1},
		{0, math.MinInt, math.MinInt, klass.Revoke, 1},
		// A rebias above revoke, and limits above all that is counted.
		{5, 100, 50, klass.Single, 6},
		{49, 100, 50, klass.Revoke, 50},
		{1000, math.MaxInt, math.MaxInt, klass.Single, 1000},
		{0, math.MaxInt, math.MaxInt, klass.Single, 1},
	} {
		asked(t, klass.Class{Biased: true, Epoch: 9, Count: x.count}, x.rebias, x.revoke, x.todo, x.counted)
		asked(t, klass.Class{Epoch: 9, Count: x.count}, x.rebias, x.revoke, klass.Single, x.counted)
	}
}

// P6.2: a Count at its end, and above it, stays, and tells what is to be done
// as it is; it goes on to its end just below.
func TestPolicyAtTheEnd(t *testing.T) {
	for _, x := range []struct {
		count, rebias, revoke, todo, counted int
	}{
		{998, 1000, 1000, klass.Single, 999},
		{999, 1000, 1000, klass.Revoke, 1000},
		{999, 1000, 1001, klass.Rebias, 1000},
		{999, 999, 1001, klass.Single, 1000},
		{1000, 1000, 1000, klass.Revoke, 1000},
		{1000, 1000, 1001, klass.Rebias, 1000},
		{1000, 500, 1001, klass.Rebias, 1000},
		{1000, 1001, 1001, klass.Single, 1000},
		{1000, 7, 1002, klass.Single, 1000},
		{1001, 7, 1001, klass.Revoke, 1001},
		{1001, 7, 1002, klass.Rebias, 1001},
		{1001, 1000, 1002, klass.Single, 1001},
		{1001, 1002, 1002, klass.Single, 1001},
		{math.MaxInt, 2, 1000, klass.Revoke, math.MaxInt},
		{math.MaxInt - 1, 2, math.MaxInt, klass.Rebias, math.MaxInt - 1},
		{math.MaxInt - 1, 5, math.MaxInt, klass.Single, math.MaxInt - 1},
		{math.MaxInt, math.MaxInt, math.MaxInt, klass.Revoke, math.MaxInt},
	} {
		asked(t, klass.Class{Biased: true, Count: x.count}, x.rebias, x.revoke, x.todo, x.counted)
		asked(t, klass.Class{Count: x.count}, x.rebias, x.revoke, klass.Single, x.counted)
	}
}

// P6.2, R1: a Count below 0 counts on as any other one, and 0 is a multiple.
func TestPolicyBelow0(t *testing.T) {
	for _, x := range []struct {
		count, rebias, revoke, todo, counted int
	}{
		{-1, 20, 40, klass.Rebias, 0},
		{-1, math.MaxInt, 40, klass.Rebias, 0},
		{-1, 20, 0, klass.Revoke, 0},
		{-2, 20, 40, klass.Single, -1},
		{-2, 1, 40, klass.Rebias, -1},
		{-2, -1, 40, klass.Rebias, -1},
		{-2, 20, -1, klass.Revoke, -1},
		{-3, 20, -1, klass.Single, -2},
		{-21, 20, 40, klass.Rebias, -20},
		{-22, 20, 40, klass.Single, -21},
		{math.MinInt, 2, 40, klass.Single, math.MinInt + 1},
		{math.MinInt, -1, 40, klass.Rebias, math.MinInt + 1},
		{math.MinInt, math.MinInt, math.MinInt, klass.Revoke, math.MinInt + 1},
		{math.MinInt, math.MaxInt, math.MaxInt, klass.Rebias, math.MinInt + 1},
	} {
		asked(t, klass.Class{Biased: true, Epoch: 255, Count: x.count}, x.rebias, x.revoke, x.todo, x.counted)
		asked(t, klass.Class{Epoch: 255, Count: x.count}, x.rebias, x.revoke, klass.Single, x.counted)
	}
}

// P6.2: policies at all limits and counts around 0 to 1000, against a
// reckoning by taking off.
func TestPolicyOfEachCount(t *testing.T) {
	for count := -50; count <= 1050; count++ {
		counted := count
		if count < 1000 {
			counted = count + 1
		}
		for _, rebias := range limits {
			for _, revoke := range limits {
				for _, biased := range []bool{true, false} {
					c := klass.Class{Biased: biased, Epoch: uint8(count), Count: count}
					asked(t, c, rebias, revoke, slowPolicy(biased, counted, rebias, revoke), counted)
				}
			}
		}
	}
}

// P6.2: a class that counts on and on, with the document's ways of what is to
// be done behind it: biased, it is told Single and Rebias, up to Revoke; then
// Single alone. The Count ends at 1000.
func TestPolicyOnAndOn(t *testing.T) {
	c := klass.Class{Biased: true, Epoch: 253}
	want := []int{0, 0, 1, 0, 0, 1, 0, 0, 1, 2}
	for i := range 1100 {
		todo := 0
		if i < len(want) {
			todo = want[i]
		}
		asked(t, c, 3, 10, todo, min(i+1, 1000))
		_, c = c.Policy(3, 10)
		switch todo {
		case klass.Rebias:
			c = c.Anew()
		case klass.Revoke:
			c = c.Never()
		}
	}
	if end := (klass.Class{Epoch: 0, Count: 1000}); c != end {
		t.Errorf("behind them it is %+v, not %+v", c, end)
	}
}

// P6.2: Anew of all classes: the next epoch, behind 255 the epoch 0, and all
// else as it was.
func TestAnew(t *testing.T) {
	eachClass(func(c klass.Class) {
		was, want := c, c
		want.Epoch = uint8((int(c.Epoch) + 1) % 256)
		if got := c.Anew(); got != want || c != was {
			t.Fatalf("Anew of %+v is %+v, not %+v; it became %+v", was, got, want, c)
		}
	})
	for _, x := range [][2]uint8{{0, 1}, {1, 2}, {127, 128}, {254, 255}, {255, 0}} {
		if got := (klass.Class{Biased: true, Epoch: x[0]}).Anew(); got.Epoch != x[1] || !got.Biased {
			t.Errorf("behind the epoch %d comes %+v", x[0], got)
		}
	}
}

// P6.2: Never of all classes: not biased, and all else as it was.
func TestNever(t *testing.T) {
	eachClass(func(c klass.Class) {
		was := c
		want := klass.Class{Epoch: c.Epoch, Count: c.Count}
		if got := c.Never(); got != want || c != was {
			t.Fatalf("Never of %+v is %+v, not %+v; it became %+v", was, got, want, c)
		}
	})
}

// P6.2: Fresh of words that are written out.
func TestFresh(t *testing.T) {
	for _, x := range []struct {
		w     uint64
		epoch uint8
		fresh uint64
	}{
		{5, 0, 5},
		{5, 1, 0x105},
		{5, 255, 0xff05},
		{0xff05, 0, 5},
		{0xff05, 255, 0xff05},
		{0x300020d, 2, 0x300020d},
		{0x300020d, 3, 0x300030d},
		{0x300020d, 0xa5, 0x300a50d},
		{0xffff00ff7d, 0, 0xffff00007d},
		{0xffff00007d, 128, 0xffff00807d},
	} {
		for _, c := range []klass.Class{
			{Biased: true, Epoch: x.epoch}, {Biased: true, Epoch: x.epoch, Count: 1000}, {Epoch: x.epoch}, {Epoch: x.epoch, Count: -1},
		} {
			if got, ok := klass.Fresh(x.w, c); got != x.fresh || !ok {
				t.Errorf("%#x made Fresh of %+v is %#x, %v, not %#x", x.w, c, got, ok, x.fresh)
			}
		}
	}
}

// P6.2: of a word that is not Biased Fresh is 0 and false, be the class what it
// may.
func TestFreshOfAnotherWord(t *testing.T) {
	eachClass(func(c klass.Class) {
		for _, w := range notBiased() {
			if got, ok := klass.Fresh(w, c); got != 0 || ok {
				t.Fatalf("%#x made Fresh of %+v is %#x, %v", w, c, got, ok)
			}
		}
	})
}

// P6.1, P6.2: Valid and Fresh of words of no pattern, and of Biased ones with
// up to two bits turned, against a reckoning by arithmetic.
func TestWordsOfNoPattern(t *testing.T) {
	check := func(w uint64, c klass.Class) {
		want, is := slowFresh(w, uint64(c.Epoch))
		if got, ok := klass.Fresh(w, c); got != want || ok != is {
			t.Fatalf("%#x made Fresh of %+v is %#x, %v, not %#x, %v", w, c, got, ok, want, is)
		}
		if valid := is && c.Biased && want == w; c.Valid(w) != valid {
			t.Fatalf("%#x of %+v is Valid: %v", w, c, !valid)
		}
	}
	classes := []klass.Class{{Biased: true}, {Biased: true, Epoch: 2}, {Biased: true, Epoch: 255}, {}, {Epoch: 2}}
	for _, w := range append([]uint64{5, 0x7d, 0x300020d, 0xffff00ff7d, 0xaaaa00aa55}, others...) {
		for a := range 64 {
			for b := range 64 {
				for _, c := range classes {
					check(w^1<<a^1<<b, c)
					check(w^1<<a, c)
				}
			}
		}
	}
	w := uint64(6)
	for range 20000 {
		w = w*6364136223846793005 + 1442695040888963407
		for _, c := range classes {
			c.Epoch ^= uint8(w >> 50)
			check(w, c)
			check(w>>24, c)
			check(w>>24&^0xff0082|5, c)
		}
	}
}

// P6.3: a new object's word is Valid just if its class is biased.
func TestNewIsValidIfBiased(t *testing.T) {
	eachClass(func(c klass.Class) {
		if got := c.Valid(c.Header()); got != c.Biased {
			t.Fatalf("the new word of %+v is Valid: %v", c, got)
		}
	})
}

// P6.4: behind Anew no word that was Valid is, and behind Never none is,
// neither those that were nor any other.
func TestBehindAnewAndNever(t *testing.T) {
	for epoch := range 256 {
		c := klass.Class{Biased: true, Epoch: uint8(epoch), Count: 3}
		valid := 0
		for of := range 256 {
			eachBiased(of, func(w uint64) {
				if c.Valid(w) {
					valid++
					if c.Anew().Valid(w) {
						t.Fatalf("%#x is Valid behind Anew of %+v", w, c)
					}
				}
				if c.Never().Valid(w) || c.Never().Anew().Valid(w) || c.Anew().Never().Valid(w) {
					t.Fatalf("%#x is Valid behind Never of %+v", w, c)
				}
			})
		}
		if want := len(ages) * len(owners); valid != want {
			t.Fatalf("%d words are Valid of %+v, not %d", valid, c, want)
		}
		if w := c.Header(); c.Anew().Valid(w) || c.Never().Valid(w) {
			t.Fatalf("the new word of %+v stays Valid", c)
		}
		if w := c.Never().Header(); c.Valid(w) || c.Never().Valid(w) {
			t.Fatalf("the new word of %+v, never biased, is Valid", c)
		}
	}
}

// P6.4: behind 256 times Anew a class is in the epoch that it began with, and
// in no one of them twice ahead of it.
func TestAnewGoesRound(t *testing.T) {
	c := klass.Class{Biased: true, Epoch: 200, Count: 7}
	w, next := c.Header(), c
	for i := range 256 {
		if next.Valid(w) != (i == 0) {
			t.Fatalf("%d times Anew: Valid is %v", i, i != 0)
		}
		next = next.Anew()
	}
	if next != c {
		t.Errorf("%+v is %+v behind all epochs", c, next)
	}
}

// P6.5: a word made Fresh is Valid, if the class is biased, and is not else;
// made Fresh once more it stays.
func TestFreshIsValid(t *testing.T) {
	for epoch := range 256 {
		eachBiased(epoch, func(w uint64) {
			for of := range 256 {
				for _, biased := range []bool{true, false} {
					c := klass.Class{Biased: biased, Epoch: uint8(of), Count: epoch}
					fresh, ok := klass.Fresh(w, c)
					if !ok || c.Valid(fresh) != biased {
						t.Fatalf("%#x made Fresh of %+v is %#x, %v, Valid: %v", w, c, fresh, ok, c.Valid(fresh))
					}
					if again, ok := klass.Fresh(fresh, c); again != fresh || !ok {
						t.Fatalf("%#x made Fresh of %+v twice is %#x, %v, then %#x", w, c, fresh, ok, again)
					}
				}
			}
		})
	}
}
