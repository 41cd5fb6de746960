package cell_test

import (
	"math"
	"slices"
	"testing"

	"futtock/api"
	"futtock/cell"
)

const ones = math.MaxUint64

// lengths are such as a memory may have, the least and the greatest among
// them.
var lengths = []int{1, 2, 3, 64, 128, 4095, 4096}

// wrongLengths are such as none may have.
var wrongLengths = []int{0, -1, -2, -4096, 4097, 4098, 8192, 65536, 1 << 32, 1<<32 + 1, math.MinInt, math.MaxInt}

// made is a memory of so many cells.
func made(t *testing.T, cells int) *cell.Memory {
	t.Helper()
	m, err := cell.New(cells)
	if m == nil || err != api.OK {
		t.Fatalf("New(%d) is %v, %d", cells, m, err)
	}
	return m
}

// filled is a memory of these words.
func filled(t *testing.T, words ...uint64) *cell.Memory {
	t.Helper()
	m := made(t, len(words))
	for a, w := range words {
		if !m.Store(a, w) {
			t.Fatalf("of %d cells there is none at %d", len(words), a)
		}
	}
	return m
}

// wrongPlaces are addresses at which a memory of so many cells has none.
func wrongPlaces(cells int) []int {
	return []int{-1, -2, -cells, cells, cells + 1, 2 * cells, 4097, 1 << 32, -1 << 32, math.MinInt, math.MaxInt}
}

// nobodys are memories that New did not give.
func nobodys() []*cell.Memory {
	refused, _ := cell.New(0)
	return []*cell.Memory{nil, {}, new(cell.Memory), refused}
}

// slow is what a memory should be: the words that are not 0, by addresses,
// and the accesses one by one.
type slow struct {
	cells    int
	words    map[int]uint64
	accesses []string
}

func newSlow(cells int) *slow {
	return &slow{cells: cells, words: map[int]uint64{}}
}

// reach tells whether there is such a cell, and notes an access of it.
func (s *slow) reach(a int, what string) bool {
	there := 0 <= a && a < s.cells
	if there {
		s.accesses = append(s.accesses, what)
	}
	return there
}

func (s *slow) load(a int) uint64 {
	s.reach(a, "load")
	return s.words[a]
}

func (s *slow) store(a int, w uint64) bool {
	there := s.reach(a, "store")
	if there {
		s.words[a] = w
	}
	return there
}

func (s *slow) cas(a int, old, w uint64) (uint64, bool) {
	if !s.reach(a, "cas") {
		return 0, false
	}
	had := s.words[a]
	if had == old {
		s.words[a] = w
	}
	return had, had == old
}

func (s *slow) all() []uint64 {
	l := make([]uint64, s.cells)
	for a, w := range s.words {
		l[a] = w
	}
	return l
}

// agree tells of what a memory is not as it should be.
func agree(t *testing.T, m *cell.Memory, s *slow) {
	t.Helper()
	if n := m.Len(); n != s.cells {
		t.Fatalf("Len is %d, of %d cells", n, s.cells)
	}
	if n := m.Count(); n != int64(len(s.accesses)) {
		t.Fatalf("Count is %d, after %d accesses", n, len(s.accesses))
	}
	if l := m.All(); !slices.Equal(l, s.all()) {
		t.Fatalf("All is %v, not %v", l, s.all())
	}
}

// numbers are of no pattern, and the same ones each time.
type numbers uint64

func (n *numbers) below(end int) int {
	*n = *n*6364136223846793005 + 1442695040888963407
	return int(uint64(*n) >> 33 % uint64(end))
}

// P3.1: New of as many cells as may be: all are 0, and nothing was done yet.
func TestNew(t *testing.T) {
	for _, cells := range lengths {
		m := made(t, cells)
		agree(t, m, newSlow(cells))
		for a := range cells {
			if w := m.Load(a); w != 0 {
				t.Fatalf("of %d new cells that at %d is %#x", cells, a, w)
			}
		}
	}
}

// P3.1: New of as many cells as may not be.
func TestNewOfWrongLengths(t *testing.T) {
	for _, cells := range wrongLengths {
		if m, err := cell.New(cells); m != nil || err != api.ErrArg {
			t.Errorf("New(%d) is %v, %d", cells, m, err)
		}
	}
}

// P3.1: no memory has cells of another one.
func TestNewIsAnotherOne(t *testing.T) {
	m, o := made(t, 2), made(t, 2)
	m.Store(0, 5)
	if w := o.Look(0); w != 0 || o.Count() != 0 {
		t.Errorf("what is stored in one memory is %#x in another one, of count %d", w, o.Count())
	}
}

// P3.1: Load and Store of the first, the last and all other cells.
func TestLoadAndStore(t *testing.T) {
	for _, cells := range lengths {
		m, s := made(t, cells), newSlow(cells)
		for a := range cells {
			w := ones - uint64(a)
			if !m.Store(a, w) || !s.store(a, w) {
				t.Fatalf("of %d cells there is none at %d to store", cells, a)
			}
		}
		agree(t, m, s)
		for a := range cells {
			if w := m.Load(a); w != s.load(a) {
				t.Fatalf("of %d cells that at %d is %#x", cells, a, w)
			}
		}
		agree(t, m, s)
	}
}

// P3.1: a word of each bit alone, of none and of all is stored whole, and put
// whole by a CAS.
func TestWholeWords(t *testing.T) {
	words := []uint64{0, ones, 1<<63 | 1, 0x0123456789abcdef}
	for bit := range 64 {
		words = append(words, 1<<bit, ^uint64(1<<bit))
	}
	m := made(t, 1)
	for _, w := range words {
		m.Store(0, w)
		if got := m.Load(0); got != w {
			t.Errorf("%#x was stored, %#x loaded", w, got)
		}
		if had, ok := m.CAS(0, w, ^w); had != w || !ok {
			t.Errorf("a CAS of %#x is %#x, %v", w, had, ok)
		}
		if got := m.Load(0); got != ^w {
			t.Errorf("%#x was put by a CAS, %#x loaded", ^w, got)
		}
	}
}

// P3.1: a CAS whose old word is there, also such as puts the same one.
func TestCAS(t *testing.T) {
	for _, cells := range lengths {
		for _, a := range []int{0, cells / 2, cells - 1} {
			m := made(t, cells)
			for _, c := range [][2]uint64{{0, 5}, {5, ones}, {ones, ones}, {ones, 0}, {0, 0}} {
				if w, ok := m.CAS(a, c[0], c[1]); w != c[0] || !ok || m.Look(a) != c[1] {
					t.Errorf("of %d cells a CAS at %d of %#x to %#x is %#x, %v", cells, a, c[0], c[1], w, ok)
				}
			}
			if n := m.Count(); n != 5 {
				t.Errorf("Count is %d after 5 that are true", n)
			}
		}
	}
}

// P3.1, P3.4: a CAS whose old word is not there tells the one that is, turns
// nothing, and is an access all the same. Words of which one bit is another
// one are not the same; nor does it count whether the new word is there.
func TestCASOfAnotherWord(t *testing.T) {
	for _, had := range []uint64{0, 5, 1 << 63, ones} {
		olds := []uint64{had + 1, had - 1, ^had}
		for bit := range 64 {
			olds = append(olds, had^1<<bit)
		}
		m, s := filled(t, 1, had, 2), newSlow(3)
		s.store(0, 1)
		s.store(1, had)
		s.store(2, 2)
		for _, old := range olds {
			for _, w := range []uint64{0, 6, old, had, ones} {
				got, ok := m.CAS(1, old, w)
				if got != had || ok {
					t.Fatalf("%#x: a CAS of %#x to %#x is %#x, %v", had, old, w, got, ok)
				}
				s.cas(1, old, w)
				agree(t, m, s)
			}
		}
	}
}

// P3.1: of the document's own example, and who comes behind.
func TestCASInTurns(t *testing.T) {
	m := made(t, 1)
	if w, ok := m.CAS(0, 0, 5); w != 0 || !ok {
		t.Errorf("the first CAS is %d, %v", w, ok)
	}
	if w, ok := m.CAS(0, 0, 6); w != 5 || ok {
		t.Errorf("the second CAS is %d, %v", w, ok)
	}
	if w, ok := m.CAS(0, 5, 6); w != 5 || !ok {
		t.Errorf("the third CAS is %d, %v", w, ok)
	}
	if w, n := m.Load(0), m.Count(); w != 6 || n != 4 {
		t.Errorf("then the word is %d, the count %d", w, n)
	}
}

// P3.1: of a cell that is not there nothing is loaded or stored, and nothing
// is an access.
func TestWrongPlaces(t *testing.T) {
	for _, cells := range lengths {
		m := made(t, cells)
		for a := range cells {
			m.Store(a, 9)
		}
		before := m.All()
		for _, a := range wrongPlaces(cells) {
			if w := m.Load(a); w != 0 {
				t.Errorf("of %d cells Load(%d) is %#x", cells, a, w)
			}
			if w := m.Look(a); w != 0 {
				t.Errorf("of %d cells Look(%d) is %#x", cells, a, w)
			}
			if m.Store(a, 5) {
				t.Errorf("of %d cells Store(%d) is true", cells, a)
			}
			for _, old := range []uint64{0, 9, ones} {
				if w, ok := m.CAS(a, old, 5); w != 0 || ok {
					t.Errorf("of %d cells CAS(%d) of %#x is %#x, %v", cells, a, old, w, ok)
				}
			}
		}
		if n := m.Count(); n != int64(cells) || !slices.Equal(m.All(), before) {
			t.Errorf("of %d cells something was turned, or the count is %d", cells, n)
		}
	}
}

// P3.2: Look is as Load, but no access; nor is any other call that asks.
func TestNoAccess(t *testing.T) {
	m := filled(t, 3, 0, ones)
	for a, want := range []uint64{3, 0, ones} {
		if w := m.Look(a); w != want {
			t.Errorf("Look(%d) is %#x", a, w)
		}
	}
	m.Len()
	m.All()
	m.Same(m)
	m.Same(made(t, 3))
	m.Same(nil)
	m.Count()
	if n := m.Count(); n != 3 {
		t.Errorf("Count is %d after 3 accesses", n)
	}
	for a := range 3 {
		m.Load(a)
	}
	if n := m.Count(); n != 6 {
		t.Errorf("Count is %d after 6 accesses", n)
	}
}

// P3.2, R4: what All answers is the caller's, and no later call turns it.
func TestAllIsTheCallers(t *testing.T) {
	m := filled(t, 1, 2, 3)
	l, other := m.All(), m.All()
	l[0], l[2] = 7, 8
	if w := m.Look(0); w != 1 || m.Load(2) != 3 {
		t.Errorf("what was written into the answer is in the memory: %d", w)
	}
	_ = append(l[:1], 50, 60, 70, 80)
	if got := m.All(); !slices.Equal(got, []uint64{1, 2, 3}) {
		t.Errorf("then All is %v", got)
	}
	m.Store(1, 9)
	m.CAS(0, 1, 4)
	if !slices.Equal(other, []uint64{1, 2, 3}) {
		t.Errorf("what was answered is %v by now", other)
	}
}

// P3.2: Same asks for the words alone: not for how they came there, nor for
// the count.
func TestSame(t *testing.T) {
	for _, cells := range lengths {
		m, o := made(t, cells), made(t, cells)
		for _, a := range []int{0, cells / 2, cells - 1} {
			for _, w := range []uint64{1, 1 << 63, ones} {
				m.Load(a)
				if !m.Same(o) || !o.Same(m) || !m.Same(m) {
					t.Fatalf("two memories of %d equal cells are not the same", cells)
				}
				m.Store(a, w)
				if m.Same(o) || o.Same(m) {
					t.Fatalf("of %d cells that at %d is another one, and they are the same", cells, a)
				}
				o.Store(a, w)
			}
		}
		if !m.Same(o) || !o.Same(m) {
			t.Fatalf("two memories of %d equal cells are not the same", cells)
		}
	}
}

// P3.2: memories of different lengths are not the same, also if those words
// that both have are.
func TestSameOfDifferentLengths(t *testing.T) {
	for i, short := range lengths {
		for _, long := range lengths[i+1:] {
			m, o := made(t, short), made(t, long)
			if m.Same(o) || o.Same(m) {
				t.Errorf("of %d and of %d cells they are the same", short, long)
			}
		}
	}
	if m, o := filled(t, 5, 6), filled(t, 5, 6, 0); m.Same(o) || o.Same(m) {
		t.Error("with a cell more that is 0 they are the same")
	}
}

// P3.2: memories that New did not give have nothing, whatever is asked.
func TestNobodys(t *testing.T) {
	for i, m := range nobodys() {
		for _, a := range append(wrongPlaces(1), 0, 1, 4095, 4096) {
			if w := m.Load(a); w != 0 {
				t.Errorf("%d: Load(%d) is %#x", i, a, w)
			}
			if w := m.Look(a); w != 0 {
				t.Errorf("%d: Look(%d) is %#x", i, a, w)
			}
			if m.Store(a, 5) {
				t.Errorf("%d: Store(%d) is true", i, a)
			}
			if w, ok := m.CAS(a, 0, 5); w != 0 || ok {
				t.Errorf("%d: CAS(%d) is %#x, %v", i, a, w, ok)
			}
		}
		if m.Len() != 0 || m.Count() != 0 || len(m.All()) != 0 {
			t.Errorf("%d: Len is %d, Count %d, All %v", i, m.Len(), m.Count(), m.All())
		}
	}
}

// P3.2: two memories that New did not give are the same; such a one and one
// that New gave are not.
func TestSameOfNobodys(t *testing.T) {
	for i, m := range nobodys() {
		for j, o := range nobodys() {
			if !m.Same(o) {
				t.Errorf("%d and %d: they are not the same", i, j)
			}
		}
		for _, cells := range lengths {
			if o := made(t, cells); m.Same(o) || o.Same(m) {
				t.Errorf("%d: it is the same as one of %d cells", i, cells)
			}
		}
	}
}

// P3.3: what was stored last, by a Store or a CAS, is loaded; other cells
// stay.
func TestOtherCellsStay(t *testing.T) {
	for _, cells := range []int{1, 2, 3, 64, 4096} {
		m, s := made(t, cells), newSlow(cells)
		for a := range cells {
			m.Store(a, uint64(a)+1)
			s.store(a, uint64(a)+1)
		}
		for _, a := range []int{0, cells / 2, cells - 1, 0} {
			m.Store(a, 77)
			s.store(a, 77)
			agree(t, m, s)
			m.CAS(a, 77, ones)
			s.cas(a, 77, ones)
			agree(t, m, s)
			if w := m.Load(a); w != s.load(a) {
				t.Errorf("of %d cells that at %d is %#x", cells, a, w)
			}
		}
	}
}

// P3.1 to P3.4: calls of no pattern, of few words, so that a CAS often finds
// its old one; of addresses that are there, and of some that are not.
func TestAllOrders(t *testing.T) {
	words := []uint64{0, 1, 5, ones}
	n := numbers(1)
	for _, cells := range []int{1, 2, 3, 7, 128} {
		m, s := made(t, cells), newSlow(cells)
		puts, misses := 0, 0
		for range 5000 {
			a, old, w := n.below(cells+4)-2, words[n.below(4)], words[n.below(4)]
			switch n.below(4) {
			case 0:
				if got, want := m.Load(a), s.load(a); got != want {
					t.Fatalf("of %d cells Load(%d) is %#x, not %#x", cells, a, got, want)
				}
			case 1:
				if got, want := m.Store(a, w), s.store(a, w); got != want {
					t.Fatalf("of %d cells Store(%d) is %v", cells, a, got)
				}
			case 2:
				got, ok := m.CAS(a, old, w)
				want, should := s.cas(a, old, w)
				if got != want || ok != should {
					t.Fatalf("of %d cells CAS(%d, %#x, %#x) is %#x, %v, not %#x, %v", cells, a, old, w, got, ok, want, should)
				}
				if ok {
					puts++
				} else if 0 <= a && a < cells {
					misses++
				}
			case 3:
				if got := m.Look(a); got != s.words[a] {
					t.Fatalf("of %d cells Look(%d) is %#x", cells, a, got)
				}
			}
			agree(t, m, s)
		}
		if puts < 30 || misses < 30 {
			t.Errorf("of %d cells %d were true, %d false: too few to tell", cells, puts, misses)
		}
	}
}

// R3, R5: the same calls do the same in another memory.
func TestSameCallsDoTheSame(t *testing.T) {
	var ms [2]*cell.Memory
	for i := range ms {
		n := numbers(7)
		ms[i] = made(t, 16)
		for range 2000 {
			a, w := n.below(18)-1, uint64(n.below(4))
			switch n.below(3) {
			case 0:
				ms[i].Store(a, w)
			case 1:
				ms[i].CAS(a, w, uint64(n.below(4)))
			case 2:
				ms[i].Load(a)
			}
		}
	}
	if !ms[0].Same(ms[1]) || ms[0].Count() != ms[1].Count() {
		t.Errorf("%v, %d, and %v, %d", ms[0].All(), ms[0].Count(), ms[1].All(), ms[1].Count())
	}
}
