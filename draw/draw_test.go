package draw_test

import (
	"math"
	"slices"
	"testing"

	"futtock/draw"
)

const (
	ones = math.MaxUint64
	// begins is the number that turns a seed into a state.
	begins = 88172645463325252
)

// seeds are the least and the greatest one, that of the state 0 and those
// beside it, and such as have something to be seen at either end.
var seeds = []uint64{
	0, 1, 2, 42, begins - 1, begins, begins + 1, begins ^ 1, begins ^ 2, ^uint64(begins), 1 << 31, 1 << 32, 1 << 33,
	1 << 62, 1 << 63, 1<<63 | 1, math.MaxInt64, ones - 1, ones, 0x0123456789abcdef, 0x9e3779b97f4a7c15,
}

// patterns are numbers of no pattern, and the same ones each time, with such
// as have few bits.
func patterns() []uint64 {
	l := []uint64{0, ones, ones - 1, begins, 0x5555555555555555, 0xaaaaaaaaaaaaaaaa}
	for i := range 64 {
		l = append(l, ^uint64(1<<i), 1<<i-1)
		for j := range i + 1 {
			l = append(l, 1<<i|1<<j)
		}
	}
	n := uint64(5)
	for range 20000 {
		n = n*6364136223846793005 + 1442695040888963407
		l = append(l, n, n>>40)
	}
	return l
}

// bits are those of a number, the lowest one first.
type bits [64]int

func bitsOf(n uint64) (b bits) {
	for i := range b {
		b[i] = int(n % 2)
		n /= 2
	}
	return b
}

func (b bits) number() (n uint64) {
	for i := len(b) - 1; i >= 0; i-- {
		n = 2*n + uint64(b[i])
	}
	return n
}

// turned are the bits, each of them another one, if the one that stands so
// many places below it is 1.
func (b bits) turned(places int) bits {
	out := b
	for i := range b {
		if from := i - places; from >= 0 && from < len(b) {
			out[i] = (b[i] + b[from]) % 2
		}
	}
	return out
}

// slowStir is a number stirred, bit by bit.
func slowStir(n uint64) uint64 {
	return bitsOf(n).turned(13).turned(-7).turned(17).number()
}

// slow is what a source should be: the state that it has, and all that it
// told.
type slow struct {
	state uint64
	told  []uint32
}

func newSlow(seed uint64) *slow {
	b, with := bitsOf(seed), bitsOf(begins)
	for i := range b {
		b[i] = (b[i] + with[i]) % 2
	}
	return &slow{state: max(b.number(), 1)}
}

func (s *slow) hash() uint32 {
	for {
		s.state = slowStir(s.state)
		if h := s.state / (1 << 33); h != 0 {
			s.told = append(s.told, uint32(h))
			return uint32(h)
		}
	}
}

// agree tells of what a source is not as it should be, asked twice.
func agree(t *testing.T, s *draw.Source, want *slow) {
	t.Helper()
	for range 2 {
		if got := s.State(); got != want.state {
			t.Fatalf("State is %d, not %d", got, want.state)
		}
		if got := s.Count(); got != len(want.told) {
			t.Fatalf("Count is %d, after %d hashes", got, len(want.told))
		}
	}
}

// made is a source of a seed.
func made(t *testing.T, seed uint64) *draw.Source {
	t.Helper()
	s := draw.New(seed)
	if s == nil {
		t.Fatalf("New(%d) is nil", seed)
	}
	return s
}

// run are the next hashes of a source, so many of them.
func run(s *draw.Source, many int) []uint32 {
	l := make([]uint32, many)
	for i := range l {
		l[i] = s.Hash()
	}
	return l
}

// P5.1: Stir, at numbers that are written out; the first one is the document's
// example.
func TestStir(t *testing.T) {
	for _, c := range []struct{ n, want uint64 }{
		{1, 1082269761},
		{0, 0},
		{2, 2164539522},
		{3, 3246809283},
		{begins, 8748534153485358512},
		{1 << 63, 1<<63 | 1<<56},
		{ones, 0x3f801fc0},
		{0x0123456789abcdef, 0x3f2800d6569e01b4},
	} {
		if got := draw.Stir(c.n); got != c.want {
			t.Errorf("Stir(%#x) is %#x, not %#x", c.n, got, c.want)
		}
	}
}

// P5.1: Stir against a reckoning bit by bit, each number twice.
func TestStirBitByBit(t *testing.T) {
	for _, n := range patterns() {
		want := slowStir(n)
		for range 2 {
			if got := draw.Stir(n); got != want {
				t.Fatalf("Stir(%#x) is %#x, not %#x", n, got, want)
			}
		}
	}
}

// P5.1: the state that a source begins with, of seeds that are written out.
func TestNew(t *testing.T) {
	for _, c := range []struct{ seed, state uint64 }{
		{0, 88172645463325252},
		{1, 88172645463325253},
		{4, 88172645463325248},
		{88172645463325252, 1},
		{88172645463325253, 1},
		{88172645463325254, 2},
		{ones, 18358571428246226363},
		{1 << 63, 1<<63 + begins},
	} {
		s := made(t, c.seed)
		if got := s.State(); got != c.state {
			t.Errorf("the State of New(%d) is %d, not %d", c.seed, got, c.state)
		}
		if n := s.Count(); n != 0 {
			t.Errorf("the Count of New(%d) is %d", c.seed, n)
		}
	}
}

// P5.1: the first hashes of seeds, written out, and the state behind them.
func TestHash(t *testing.T) {
	for _, c := range []struct {
		seed   uint64
		hashes []uint32
		state  uint64
	}{
		{0, []uint32{1018463418, 354007467, 402098237, 1912905468, 955155593}, 8204724074003728306},
		{1, []uint32{1018463418, 488216872, 1517865514, 145679485, 2078837585}, 17857078889911621079},
		{42, []uint32{1018463423, 1159523541, 1383994611, 1712937603, 530983800}, 4561116114299557680},
		{begins, []uint32{134226051, 1301234199, 2057992833, 1124470744, 2069375361}, 17775799001133815809},
		{ones, []uint32{1018463418, 317089364, 342977087, 1796164811, 912698609}, 7840021359855363990},
	} {
		s := made(t, c.seed)
		if got := run(s, len(c.hashes)); !slices.Equal(got, c.hashes) {
			t.Errorf("the hashes of %d are %d, not %d", c.seed, got, c.hashes)
		}
		if got := s.State(); got != c.state {
			t.Errorf("State is %d, not %d, behind the hashes of %d", got, c.state, c.seed)
		}
		if n := s.Count(); n != len(c.hashes) {
			t.Errorf("Count is %d, behind %d hashes of %d", n, len(c.hashes), c.seed)
		}
	}
}

// P5.1: runs of hashes against a reckoning bit by bit, State and Count read
// between.
func TestHashBitByBit(t *testing.T) {
	for _, seed := range seeds {
		s, want := made(t, seed), newSlow(seed)
		agree(t, s, want)
		for range 200 {
			if got, h := s.Hash(), want.hash(); got != h {
				t.Fatalf("the hash %d of %d is %d, not %d", len(want.told), seed, got, h)
			}
			agree(t, s, want)
		}
	}
}

// P5.1: a hash of 0 is not told, and does not count: the state is stirred
// anew, once or twice. Each of these states is a low one, or is stirred to one,
// so that what it is stirred to lies below a hash.
func TestHashOf0IsNotTold(t *testing.T) {
	for _, c := range []struct {
		name  string
		state uint64
		stirs int
	}{
		{"1", 1, 2},
		{"2", 2, 2},
		{"7", 7, 2},
		{"what is stirred to 1", begins ^ 13786841871209069577, 3},
		{"what is stirred to 2", begins ^ 9075499078796334815, 3},
		{"what is stirred to 4", begins ^ 17919415211678573426, 3},
	} {
		s := made(t, c.state^begins)
		state := s.State()
		if state != c.state {
			t.Fatalf("%s: State is %d", c.name, state)
		}
		for i := 1; i <= c.stirs; i++ {
			state = slowStir(state)
			if is := state>>33 != 0; is != (i == c.stirs) {
				t.Fatalf("%s: stirred %d times it is %#x", c.name, i, state)
			}
		}
		if h := s.Hash(); h != uint32(state>>33) || h == 0 {
			t.Errorf("%s: Hash is %d, of the state %#x", c.name, h, state)
		}
		if s.State() != state || s.Count() != 1 {
			t.Errorf("%s: State is %#x, not %#x, Count %d", c.name, s.State(), state, s.Count())
		}
	}
}

// P5.1: all hashes are from 1 to 2^31 - 1, and those of the upper half of them
// are told as well as those of the lower one.
func TestHashesAreInTheirRange(t *testing.T) {
	for _, seed := range seeds {
		s := made(t, seed)
		upper := 0
		for range 20000 {
			h := s.Hash()
			if h < 1 || h > math.MaxInt32 {
				t.Fatalf("a hash of %d is %d", seed, h)
			}
			if h >= 1<<30 {
				upper++
			}
		}
		if upper < 9000 || upper > 11000 {
			t.Errorf("%d of 20000 hashes of %d are in the upper half", upper, seed)
		}
		if n := s.Count(); n != 20000 {
			t.Errorf("Count is %d, after 20000 hashes", n)
		}
	}
}

// P5.1: of a nil source and of one that New did not give all is 0, however
// often it is asked, and one that New gives in between is another one.
func TestNoSource(t *testing.T) {
	for i, s := range []*draw.Source{nil, {}, new(draw.Source)} {
		for range 3 {
			if h, state, n := s.Hash(), s.State(), s.Count(); h != 0 || state != 0 || n != 0 {
				t.Fatalf("of none, the one at %d, Hash is %d, State %d, Count %d", i, h, state, n)
			}
			if h := made(t, 0).Hash(); h != 1018463418 {
				t.Fatalf("beside none a source tells %d", h)
			}
		}
	}
}

// P5.2: no two of many numbers are stirred to one.
func TestNoTwoAreStirredToOne(t *testing.T) {
	from := map[uint64]uint64{}
	check := func(n uint64) {
		to := draw.Stir(n)
		if other, there := from[to]; there && other != n {
			t.Fatalf("%#x and %#x are both stirred to %#x", n, other, to)
		}
		from[to] = n
	}
	for _, n := range patterns() {
		check(n)
	}
	for n := range uint64(1 << 16) {
		check(n)
		check(n << 48)
		check(ones - n)
	}
}

// P5.2: the numbers of one bit are stirred to such as give 0 by no turning of
// some of them by each other; and two numbers turned by each other are stirred
// to what both are stirred to, turned by each other, which is looked at for
// many of them. Where that holds, 0 alone is stirred to 0, and no two numbers
// to one.
func TestStirredBitsAreApart(t *testing.T) {
	var lead [64]uint64
	for i := range 64 {
		n := draw.Stir(1 << i)
		for at := 63; at >= 0 && n != 0; at-- {
			if n>>at == 0 {
				continue
			}
			if lead[at] == 0 {
				lead[at] = n
				break
			}
			n ^= lead[at]
		}
		if n == 0 {
			t.Fatalf("the bit %d, stirred, is made of those below it", i)
		}
	}
	l := patterns()
	for i, n := range l {
		o := l[len(l)-1-i]
		if both := draw.Stir(n ^ o); both != draw.Stir(n)^draw.Stir(o) {
			t.Fatalf("%#x turned by %#x is stirred to %#x", n, o, both)
		}
	}
}

// P5.3: two sources of one seed tell the same, asked in turns, with one of
// another seed between them, and one behind the other.
func TestSourcesOfOneSeed(t *testing.T) {
	for _, seed := range seeds {
		a, b, beside := made(t, seed), made(t, seed), made(t, ^seed)
		for i := range 100 {
			beside.Hash()
			draw.Stir(seed)
			if x, y := a.Hash(), b.Hash(); x != y {
				t.Fatalf("the hash %d of %d is %d and %d", i, seed, x, y)
			}
			if a.State() != b.State() || a.Count() != i+1 || b.Count() != i+1 {
				t.Fatalf("behind %d hashes of %d State is %d and %d, Count %d and %d",
					i+1, seed, a.State(), b.State(), a.Count(), b.Count())
			}
		}
		c, d := made(t, seed), made(t, seed)
		first := run(c, 100)
		if n := d.Count(); n != 0 {
			t.Fatalf("another one's hashes count: %d", n)
		}
		if then := run(d, 100); !slices.Equal(first, then) {
			t.Fatalf("of %d one tells %d, another one then %d", seed, first, then)
		}
		if c.State() != d.State() || c.State() != a.State() {
			t.Fatalf("of %d State is %d, %d and %d", seed, a.State(), c.State(), d.State())
		}
	}
}

// P5.1: sources of seeds that are not the same have states that are not, but
// for those whose state would be 0, and 1.
func TestSourcesOfOtherSeeds(t *testing.T) {
	for _, a := range seeds {
		for _, b := range seeds {
			x, y := newSlow(a).state, newSlow(b).state
			if got := made(t, a).State() == made(t, b).State(); got != (x == y) {
				t.Errorf("the states of %d and %d are the same: %v", a, b, got)
			}
		}
	}
}
