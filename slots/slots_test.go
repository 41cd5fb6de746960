package slots_test

import (
	"math"
	"slices"
	"testing"

	"futtock/api"
	"futtock/slots"
)

// lastGen is the generation of which a slot is spent as it is freed.
const lastGen = 1<<24 - 1

// sizes are numbers of slots that there may be, blocks such of a block.
var (
	sizes  = []int{1, 2, 3, 7, 64, 65, 100, 4095, 4096}
	blocks = []int{1, 2, 3, 5, 32, 63, 64}
)

// wrongSizes and wrongBlocks are such as there may not be.
var (
	wrongSizes = []int{
		0, -1, -2, -4096, -4097, 4097, 8192, 65536, 1 << 32, 1<<32 + 1, -1 << 32, math.MaxInt, math.MinInt, math.MinInt + 1,
	}
	wrongBlocks = []int{
		0, -1, -2, -64, -65, 65, 128, 4096, 1 << 32, 1<<32 + 1, -1 << 32, math.MaxInt, math.MinInt, math.MinInt + 1,
	}
)

// threads are such as there are, the first one and the last one among them.
var threads = []int{0, 1, 2, 7, 63, 64, 128, 254, 255}

// wrongThreads are none, though some have the lowest bits of one.
var wrongThreads = []int{
	-1, -2, -255, -256, 256, 257, 512, 65536, 1 << 32, 1<<32 + 1, -1 << 32, math.MaxInt, math.MinInt, math.MinInt + 1,
}

// wrongSlots are none of a table of so many.
func wrongSlots(many int) []int {
	return []int{
		-1, -2, -64, -many, -many - 1, -4096, many, many + 1, many + 63, many + 64, many + 4096, many + 1<<16, many + 1<<32, 1<<32 - 1 + many, -1 << 32, math.MaxInt, math.MinInt, math.MinInt + 1,
	}
}

// nobodys are tables that New did not give.
func nobodys() []*slots.Table {
	refused, _ := slots.New(0, 1)
	other, _ := slots.New(1, 0)
	return []*slots.Table{nil, {}, new(slots.Table), refused, other}
}

// made is a table without blocks.
func made(t *testing.T, many, block int) *slots.Table {
	t.Helper()
	x, err := slots.New(many, block)
	if x == nil || err != api.OK {
		t.Fatalf("New(%d, %d) is %v, %d", many, block, x, err)
	}
	return x
}

// took does a Take that may be.
func took(t *testing.T, x *slots.Table, thread, slot int, gen uint32) {
	t.Helper()
	if n, g, err := x.Take(thread); n != slot || g != gen || err != api.OK {
		t.Fatalf("Take(%d) is %d, %d, %d, not %d, %d", thread, n, g, err, slot, gen)
	}
}

// out does a Take for which there is nothing.
func out(t *testing.T, x *slots.Table, thread int) {
	t.Helper()
	if n, g, err := x.Take(thread); n != 0 || g != 0 || err != api.ErrOut {
		t.Fatalf("Take(%d) is %d, %d, %d, not ErrOut", thread, n, g, err)
	}
}

// freed does Frees that may be.
func freed(t *testing.T, x *slots.Table, thread int, those ...int) {
	t.Helper()
	for _, slot := range those {
		if err := x.Free(thread, slot); err != api.OK {
			t.Fatalf("Free(%d, %d) is %d", thread, slot, err)
		}
	}
}

// refused does Frees that may not be.
func refused(t *testing.T, x *slots.Table, thread int, those ...int) {
	t.Helper()
	for _, slot := range those {
		if err := x.Free(thread, slot); err != api.ErrArg {
			t.Fatalf("Free(%d, %d) is %d, not ErrArg", thread, slot, err)
		}
	}
}

// flushed does a Flush of so many.
func flushed(t *testing.T, x *slots.Table, thread, many int) {
	t.Helper()
	if n := x.Flush(thread); n != many {
		t.Fatalf("Flush(%d) is %d, not %d", thread, n, many)
	}
}

// owns tells whether a thread's own ones are those.
func owns(t *testing.T, x *slots.Table, thread int, those ...int) {
	t.Helper()
	if l := x.Own(thread); !slices.Equal(l, those) {
		t.Fatalf("Own(%d) is %v, not %v", thread, l, those)
	}
}

// counts tells whether so many are left, and so many blocks made, with those in
// use.
func counts(t *testing.T, x *slots.Table, left, blocks int, those ...int) {
	t.Helper()
	if n, m, l := x.Left(), x.Made(), x.InUse(); n != left || m != blocks || !slices.Equal(l, those) {
		t.Fatalf("%d are left, %d blocks made, %v in use, not %d, %d, %v", n, m, l, left, blocks, those)
	}
}

// filled is a table of which one thread took all.
func filled(t *testing.T, many, block, thread int) *slots.Table {
	t.Helper()
	x := made(t, many, block)
	for slot := range many {
		took(t, x, thread, slot, 0)
	}
	return x
}

// upTo are the numbers from 0 on, so many.
func upTo(many int) []int {
	var l []int
	for i := range many {
		l = append(l, i)
	}
	return l
}

// Where a slot is that no thread has of its own.
const (
	unmade = -1 - iota
	common
	used
	spent
)

// slow is what a table should be: of each slot where it is, a thread's number if
// it is that one's own, and since when.
type slow struct {
	block, now int
	at         []place
}

type place struct {
	where, since int
	gen          uint32
}

func slowOf(many, block int) *slow {
	s := &slow{block: block}
	for range many {
		s.at = append(s.at, place{where: unmade})
	}
	return s
}

// allUsed is one of which all is in use for the first time.
func allUsed(many, block int) *slow {
	s := slowOf(many, block)
	for slot := range many {
		s.move(slot, used)
	}
	return s
}

// those are the slots that are at a place, as they came there.
func (s *slow) those(where int) []int {
	var l []int
	for slot, p := range s.at {
		if p.where == where {
			l = append(l, slot)
		}
	}
	slices.SortStableFunc(l, func(a, b int) int { return s.at[a].since - s.at[b].since })
	return l
}

func (s *slow) move(slot, where int) {
	s.now++
	s.at[slot].where, s.at[slot].since = where, s.now
}

func (s *slow) blocksMade() int {
	n := 0
	for slot, p := range s.at {
		if slot%s.block == 0 && p.where != unmade {
			n++
		}
	}
	return n
}

func (s *slow) take(thread int) (int, uint32, api.Errno) {
	slot := -1
	if own := s.those(thread); len(own) > 0 {
		slot = own[len(own)-1]
	} else if l := s.those(common); len(l) > 0 {
		slot = slices.Min(l)
	} else if l := s.those(unmade); len(l) > 0 {
		slot = slices.Min(l)
		for other := range s.at {
			if other/s.block == slot/s.block {
				s.move(other, common)
			}
		}
	}
	if slot < 0 {
		return 0, 0, api.ErrOut
	}
	s.move(slot, used)
	return slot, s.at[slot].gen, api.OK
}

func (s *slow) free(thread, slot int) api.Errno {
	switch {
	case slot < 0 || slot >= len(s.at) || s.at[slot].where != used:
		return api.ErrArg
	case s.at[slot].gen == lastGen:
		s.move(slot, spent)
		return api.OK
	}
	s.at[slot].gen++
	if len(s.those(thread)) < s.block {
		s.move(slot, thread)
	} else {
		s.move(slot, common)
	}
	return api.OK
}

func (s *slow) flush(thread int) int {
	own := s.those(thread)
	for _, slot := range own {
		s.move(slot, common)
	}
	return len(own)
}

// inUse are those in use, rising.
func (s *slow) inUse() []int {
	l := s.those(used)
	slices.Sort(l)
	return l
}

// shows tells of what a table should show and doesn't, of the threads asked,
// twice.
func shows(t *testing.T, x *slots.Table, want *slow, asked ...int) {
	t.Helper()
	for range 2 {
		left := len(want.at) - len(want.those(used)) - len(want.those(spent))
		counts(t, x, left, want.blocksMade(), want.inUse()...)
		for _, thread := range asked {
			owns(t, x, thread, want.those(thread)...)
		}
		for _, thread := range wrongThreads {
			owns(t, x, thread)
		}
		for slot, p := range want.at {
			showsSlot(t, x, slot, p)
		}
		for _, slot := range wrongSlots(len(want.at)) {
			showsNone(t, x, slot)
		}
	}
}

// showsMost does what shows does, without what is wrong to ask.
func showsMost(t *testing.T, x *slots.Table, want *slow, asked ...int) {
	t.Helper()
	using := want.inUse()
	counts(t, x, len(want.at)-len(using)-len(want.those(spent)), want.blocksMade(), using...)
	for _, thread := range asked {
		owns(t, x, thread, want.those(thread)...)
	}
	for slot, p := range want.at {
		if gen, err := x.Gen(slot); gen != p.gen || err != api.OK || x.Used(slot) != (p.where == used) {
			t.Fatalf("Gen(%d) is %d, %d, Used is %v, of %v", slot, gen, err, x.Used(slot), p)
		}
	}
}

// showsSlot tells whether a table shows one slot as it should.
func showsSlot(t *testing.T, x *slots.Table, slot int, p place) {
	t.Helper()
	if x.Used(slot) != (p.where == used) {
		t.Fatalf("Used(%d) is %v, of %v", slot, x.Used(slot), p)
	}
	if gen, err := x.Gen(slot); gen != p.gen || err != api.OK {
		t.Fatalf("Gen(%d) is %d, %d, of %v", slot, gen, err, p)
	}
	if x.Check(slot, p.gen) != (p.where == used) {
		t.Fatalf("Check(%d, %d) is %v, of %v", slot, p.gen, x.Check(slot, p.gen), p)
	}
	for _, gen := range []uint32{p.gen - 1, p.gen + 1, p.gen ^ 1<<8, p.gen ^ 1<<24, p.gen ^ 1<<31, ^p.gen} {
		if x.Check(slot, gen) {
			t.Fatalf("Check(%d, %d) holds, of %v", slot, gen, p)
		}
	}
}

// showsNone tells whether a table shows that there is no such slot.
func showsNone(t *testing.T, x *slots.Table, slot int) {
	t.Helper()
	if x.Used(slot) {
		t.Fatalf("Used(%d) holds", slot)
	}
	if gen, err := x.Gen(slot); gen != 0 || err != api.ErrArg {
		t.Fatalf("Gen(%d) is %d, %d", slot, gen, err)
	}
	for _, gen := range []uint32{0, 1, lastGen, math.MaxUint32} {
		if x.Check(slot, gen) {
			t.Fatalf("Check(%d, %d) holds", slot, gen)
		}
	}
}

// numbers are of no pattern, and the same ones each time.
type numbers uint64

func (n *numbers) below(end int) int {
	*n = *n*6364136223846793005 + 1442695040888963407
	return int(uint64(*n) >> 33 % uint64(end))
}

// P10.1: a new table has no blocks, and just so many slots, which are taken in
// their order, block by block; one table is not another one.
func TestNew(t *testing.T) {
	for _, many := range sizes {
		for _, block := range blocks {
			x, other := made(t, many, block), made(t, many, block)
			shows(t, x, slowOf(many, block), threads...)
			for slot := range many {
				took(t, x, threads[slot%len(threads)], slot, 0)
				if slot < 70 || slot%64 == 0 || slot > many-3 {
					counts(t, x, many-slot-1, slot/block+1, upTo(slot+1)...)
				}
			}
			for _, thread := range threads {
				out(t, x, thread)
			}
			shows(t, x, allUsed(many, block), threads...)
			shows(t, other, slowOf(many, block), threads...)
		}
	}
}

// P10.1: so many slots, or of a block, there may not be.
func TestNewOfWhatMayNotBe(t *testing.T) {
	none := func(many, block int) {
		t.Helper()
		if x, err := slots.New(many, block); x != nil || err != api.ErrArg {
			t.Errorf("New(%d, %d) is %v, %d", many, block, x, err)
		}
	}
	for _, many := range wrongSizes {
		for _, block := range slices.Concat(blocks, wrongBlocks) {
			none(many, block)
		}
	}
	for _, block := range wrongBlocks {
		for _, many := range sizes {
			none(many, block)
		}
	}
}

// The document's example, and what is there behind it.
func TestExample(t *testing.T) {
	x := made(t, 3, 2)
	took(t, x, 0, 0, 0)
	counts(t, x, 2, 1, 0)
	took(t, x, 0, 1, 0)
	counts(t, x, 1, 1, 0, 1)
	took(t, x, 0, 2, 0)
	counts(t, x, 0, 2, 0, 1, 2)
	out(t, x, 0)
	counts(t, x, 0, 2, 0, 1, 2)
}

// P10.1: of a thread's own slots the one that came last is taken, be its number
// lesser or greater, ahead of common ones and of a block that could be made.
func TestTakeOfOnesOwn(t *testing.T) {
	x := made(t, 12, 4)
	for slot := range 6 {
		took(t, x, 7, slot, 0)
	}
	freed(t, x, 9, 0)
	freed(t, x, 7, 4, 1, 5, 2)
	owns(t, x, 7, 4, 1, 5, 2)
	took(t, x, 7, 2, 1)
	took(t, x, 7, 5, 1)
	owns(t, x, 7, 4, 1)
	freed(t, x, 7, 5)
	took(t, x, 7, 5, 2)
	took(t, x, 7, 1, 1)
	took(t, x, 7, 4, 1)
	owns(t, x, 7)
	counts(t, x, 7, 2, 1, 2, 3, 4, 5)
	took(t, x, 7, 6, 0)
	owns(t, x, 9, 0)
}

// P10.1: of the common slots the one with the least number is taken, in whatever
// order they came, ahead of a block that could be made.
func TestTakeOfTheCommonOnes(t *testing.T) {
	for _, order := range [][]int{{0, 1, 2, 3}, {3, 2, 1, 0}, {2, 0, 3, 1}, {1, 3, 0, 2}} {
		x := made(t, 12, 4)
		for slot := range 8 {
			took(t, x, 1, slot, 0)
		}
		freed(t, x, 1, 5, 4, 7, 6)
		freed(t, x, 1, order...)
		owns(t, x, 1, 5, 4, 7, 6)
		for slot := range 4 {
			took(t, x, 2+slot, slot, 1)
		}
		counts(t, x, 8, 2, 0, 1, 2, 3)
		took(t, x, 2, 8, 0)
		counts(t, x, 7, 3, 0, 1, 2, 3, 8)
		flushed(t, x, 1, 4)
		for slot := 4; slot < 8; slot++ {
			took(t, x, 3, slot, 1)
		}
		took(t, x, 3, 9, 0)
	}
}

// P10.1: a common slot of each number is taken, ahead of those above it.
func TestTakeOfEachCommonOne(t *testing.T) {
	for _, many := range []int{1, 64, 65, 100, 4096} {
		x := filled(t, many, 1, 3)
		for slot := many - 1; slot >= 0; slot-- {
			freed(t, x, 3, slot)
			flushed(t, x, 3, 1)
		}
		for slot := range many {
			took(t, x, 3, slot, 1)
		}
		out(t, x, 3)
	}
}

// P10.1: a Take that makes a block takes its first slot, and lets its others be
// common, not the thread's own; the last block may have fewer.
func TestTakeMakesABlock(t *testing.T) {
	x := made(t, 8, 3)
	took(t, x, 1, 0, 0)
	owns(t, x, 1)
	took(t, x, 2, 1, 0)
	took(t, x, 3, 2, 0)
	counts(t, x, 5, 1, 0, 1, 2)
	took(t, x, 255, 3, 0)
	owns(t, x, 255)
	counts(t, x, 4, 2, 0, 1, 2, 3)
	took(t, x, 0, 4, 0)
	took(t, x, 1, 5, 0)
	counts(t, x, 2, 2, 0, 1, 2, 3, 4, 5)
	took(t, x, 2, 6, 0)
	counts(t, x, 1, 3, 0, 1, 2, 3, 4, 5, 6)
	took(t, x, 3, 7, 0)
	counts(t, x, 0, 3, upTo(8)...)
	out(t, x, 4)
	counts(t, x, 0, 3, upTo(8)...)
}

// P10.1: a block of more slots than there are has those that there are.
func TestBlockGreaterThanTheTable(t *testing.T) {
	x := made(t, 2, 64)
	took(t, x, 0, 0, 0)
	counts(t, x, 1, 1, 0)
	took(t, x, 0, 1, 0)
	out(t, x, 0)
	freed(t, x, 0, 1, 0)
	owns(t, x, 0, 1, 0)
	counts(t, x, 2, 1)
}

// P10.1, P10.3: when all is in use, or some other thread's own, there is none to
// take: though what is that one's own is left.
func TestTakeWhereNoneIs(t *testing.T) {
	x := filled(t, 5, 2, 4)
	out(t, x, 4)
	freed(t, x, 5, 3, 0)
	counts(t, x, 2, 3, 1, 2, 4)
	out(t, x, 4)
	counts(t, x, 2, 3, 1, 2, 4)
	owns(t, x, 5, 3, 0)
	took(t, x, 5, 0, 1)
	flushed(t, x, 5, 1)
	took(t, x, 4, 3, 1)
	out(t, x, 4)
	out(t, x, 5)
}

// P10.2: a freed slot is of the next generation, and the thread's own till that
// has as many as a block; then common, and the lists of others stay as they are.
func TestFree(t *testing.T) {
	for _, block := range blocks {
		many := 2*block + 3
		x := filled(t, many, block, 0)
		freed(t, x, 1, many-1)
		owned := []int{}
		for slot := range block {
			owns(t, x, 0, owned...)
			freed(t, x, 0, slot)
			owned = append(owned, slot)
			if gen, err := x.Gen(slot); gen != 1 || err != api.OK || x.Used(slot) {
				t.Fatalf("of slot %d Gen is %d, %d, Used is %v", slot, gen, err, x.Used(slot))
			}
		}
		freed(t, x, 0, block+1, block)
		owns(t, x, 0, owned...)
		owns(t, x, 1, many-1)
		took(t, x, 2, block, 1)
		took(t, x, 0, block-1, 1)
		freed(t, x, 0, block)
		owns(t, x, 0, append(owned[:block-1], block)...)
		took(t, x, 2, block+1, 1)
		out(t, x, 2)
	}
}

// P10.2: any thread frees what another one took, and it is the own one of who
// frees.
func TestFreeByAnotherThread(t *testing.T) {
	for _, taker := range threads {
		for _, freer := range threads {
			x := made(t, 4, 2)
			took(t, x, taker, 0, 0)
			took(t, x, taker, 1, 0)
			freed(t, x, freer, 1, 0)
			owns(t, x, freer, 1, 0)
			if taker != freer {
				owns(t, x, taker)
				took(t, x, taker, 2, 0)
			}
			took(t, x, freer, 0, 1)
		}
	}
}

// P10.2: what is not in use is not freed: of no block yet, common, a thread's
// own, or none at all; and it turns nothing.
func TestFreeOfWhatIsNotInUse(t *testing.T) {
	x, want := made(t, 9, 3), slowOf(9, 3)
	refuses := func() {
		t.Helper()
		for slot := range 9 {
			if want.at[slot].where != used {
				for _, thread := range []int{0, 6, 255} {
					refused(t, x, thread, slot)
				}
			}
		}
		for _, thread := range []int{0, 6, 255} {
			refused(t, x, thread, wrongSlots(9)...)
		}
		shows(t, x, want, threads...)
	}
	refuses()
	for range 4 {
		didTake(t, x, want, 0)
		refuses()
	}
	for _, slot := range []int{3, 0, 2} {
		didFree(t, x, want, 6+slot%2, slot)
		refuses()
	}
	didFlush(t, x, want, 6)
	refuses()
	didFree(t, x, want, 255, 1)
	refuses()
}

// P10.2: all of a thread's own ones are common, and those of no other one.
func TestFlush(t *testing.T) {
	x := filled(t, 10, 3, 0)
	for _, thread := range threads {
		flushed(t, x, thread, 0)
	}
	counts(t, x, 0, 4, upTo(10)...)
	freed(t, x, 1, 9, 2, 5)
	freed(t, x, 2, 7)
	freed(t, x, 255, 1, 0)
	flushed(t, x, 0, 0)
	flushed(t, x, 1, 3)
	owns(t, x, 1)
	owns(t, x, 2, 7)
	owns(t, x, 255, 1, 0)
	counts(t, x, 6, 4, 3, 4, 6, 8)
	flushed(t, x, 1, 0)
	took(t, x, 0, 2, 1)
	took(t, x, 1, 5, 1)
	freed(t, x, 1, 6)
	owns(t, x, 1, 6)
	flushed(t, x, 255, 2)
	flushed(t, x, 2, 1)
	took(t, x, 2, 0, 1)
	took(t, x, 2, 1, 1)
	took(t, x, 2, 7, 1)
	took(t, x, 2, 9, 1)
	out(t, x, 2)
}

// P10.1 to P10.3: a thread that is none is refused, on a new table, on one that
// has slots of each kind, and on one of which all is in use; it turns nothing.
func TestThreadThatIsNone(t *testing.T) {
	x, want := made(t, 5, 2), slowOf(5, 2)
	refuses := func() {
		t.Helper()
		for _, thread := range wrongThreads {
			if n, g, err := x.Take(thread); n != 0 || g != 0 || err != api.ErrArg {
				t.Errorf("Take(%d) is %d, %d, %d", thread, n, g, err)
			}
			refused(t, x, thread, append(upTo(5), wrongSlots(5)...)...)
			flushed(t, x, thread, 0)
			owns(t, x, thread)
		}
		shows(t, x, want, threads...)
	}
	refuses()
	for range 3 {
		didTake(t, x, want, 0)
		refuses()
	}
	didFree(t, x, want, 0, 1)
	didFree(t, x, want, 255, 0)
	refuses()
	for _, thread := range []int{0, 255, 1, 1} {
		didTake(t, x, want, thread)
	}
	refuses()
}

// P10.3: a slot is checked by its generation, which is another one each time.
func TestCheckOfAnotherGeneration(t *testing.T) {
	x := made(t, 3, 2)
	if x.Check(0, 0) || x.Used(0) {
		t.Errorf("a slot of no block yet is in use")
	}
	for gen := range uint32(1000) {
		took(t, x, 0, 0, gen)
		showsSlot(t, x, 0, place{where: used, gen: gen})
		if x.Check(1, gen) || x.Check(2, gen) || x.Check(1, 0) || x.Check(2, 0) {
			t.Fatalf("one that was not taken is in use")
		}
		freed(t, x, 0, 0)
		showsSlot(t, x, 0, place{where: 0, gen: gen + 1})
	}
}

// P10.3: a table that New did not give has nothing, whatever is asked; and no
// call makes one of it.
func TestNobodys(t *testing.T) {
	for range 2 {
		for i, x := range nobodys() {
			for _, thread := range slices.Concat(threads, wrongThreads) {
				if n, g, err := x.Take(thread); n != 0 || g != 0 || err != api.ErrNil {
					t.Errorf("%d: Take(%d) is %d, %d, %d", i, thread, n, g, err)
				}
				for _, slot := range append(upTo(3), wrongSlots(1)...) {
					if err := x.Free(thread, slot); err != api.ErrNil {
						t.Errorf("%d: Free(%d, %d) is %d", i, thread, slot, err)
					}
				}
				flushed(t, x, thread, 0)
				owns(t, x, thread)
			}
			for _, slot := range append(upTo(3), wrongSlots(1)...) {
				if x.Used(slot) || x.Check(slot, 0) || x.Check(slot, 1) {
					t.Errorf("%d: slot %d is in use", i, slot)
				}
				if gen, err := x.Gen(slot); gen != 0 || err != api.ErrNil {
					t.Errorf("%d: Gen(%d) is %d, %d", i, slot, gen, err)
				}
			}
			counts(t, x, 0, 0)
		}
	}
}

// R4: lists are told that are the caller's: to write into them turns no table,
// and no later call turns them.
func TestListsAreTheCallers(t *testing.T) {
	x := filled(t, 6, 4, 0)
	freed(t, x, 1, 5, 2, 4)
	own, using := x.Own(1), x.InUse()
	keptOwn, keptUsing := x.Own(1), x.InUse()
	for i := range 3 {
		own[i], using[i] = 100, 200
	}
	_ = append(own[:1], 101, 102, 103)
	_ = append(using[:1], 201, 202, 203)
	owns(t, x, 1, 5, 2, 4)
	counts(t, x, 3, 2, 0, 1, 3)
	took(t, x, 1, 4, 1)
	freed(t, x, 1, 0)
	flushed(t, x, 1, 3)
	if !slices.Equal(keptOwn, []int{5, 2, 4}) || !slices.Equal(keptUsing, []int{0, 1, 3}) {
		t.Errorf("what was answered is %v, %v by now", keptOwn, keptUsing)
	}
}

// P10.2, P10.4: a slot whose generation is the last one, as calls alone bring it
// there, is spent as it is freed: neither in use nor on a list, and no other
// slot is.
func TestSpent(t *testing.T) {
	x, want := made(t, 3, 2), slowOf(3, 2)
	for gen := range uint32(lastGen) {
		n, g, err := x.Take(8)
		if n != 0 || g != gen || err != api.OK || x.Free(8, n) != api.OK {
			t.Fatalf("Take(8) is %d, %d, %d, of generation %d", n, g, err, gen)
		}
	}
	want.take(8)
	want.free(8, 0)
	want.at[0].gen = lastGen
	shows(t, x, want, threads...)
	didTake(t, x, want, 8)
	shows(t, x, want, threads...)
	didFree(t, x, want, 8, 0)
	shows(t, x, want, 8)
	owns(t, x, 8)
	counts(t, x, 2, 1)
	refused(t, x, 8, 0)
	flushed(t, x, 8, 0)
	took(t, x, 8, 1, 0)
	took(t, x, 8, 2, 0)
	out(t, x, 8)
	counts(t, x, 0, 2, 1, 2)
	freed(t, x, 8, 1, 2)
	counts(t, x, 2, 2)
	owns(t, x, 8, 1, 2)
}

// P10.1, P10.2: when all is spent, be the list of who frees full or not, there is
// none to take, and none that is left.
func TestAllSpent(t *testing.T) {
	for _, block := range blocks {
		x := filled(t, 2*block+1, block, 0)
		for slot := range 2*block + 1 {
			if slot >= block {
				slots.Age(x, slot, lastGen)
			}
			freed(t, x, 0, slot)
		}
		owns(t, x, 0, upTo(block)...)
		counts(t, x, block, 3)
		out(t, x, 1)
		for slot := block - 1; slot >= 0; slot-- {
			took(t, x, 0, slot, 1)
			slots.Age(x, slot, lastGen)
			freed(t, x, 0, slot)
		}
		counts(t, x, 0, 3)
		owns(t, x, 0)
		flushed(t, x, 0, 0)
		for _, thread := range threads {
			out(t, x, thread)
			refused(t, x, thread, upTo(2*block+1)...)
		}
		for slot := range 2*block + 1 {
			showsSlot(t, x, slot, place{where: spent, gen: lastGen})
		}
	}
}

func didTake(t *testing.T, x *slots.Table, want *slow, thread int) {
	t.Helper()
	slot, gen, err := x.Take(thread)
	if s, g, e := want.take(thread); slot != s || gen != g || err != e {
		t.Fatalf("Take(%d) is %d, %d, %d, not %d, %d, %d", thread, slot, gen, err, s, g, e)
	}
}

func didFree(t *testing.T, x *slots.Table, want *slow, thread, slot int) {
	t.Helper()
	err := x.Free(thread, slot)
	if e := want.free(thread, slot); err != e {
		t.Fatalf("Free(%d, %d) is %d, not %d", thread, slot, err, e)
	}
}

func didFlush(t *testing.T, x *slots.Table, want *slow, thread int) {
	t.Helper()
	n := x.Flush(thread)
	if m := want.flush(thread); n != m {
		t.Fatalf("Flush(%d) is %d, not %d", thread, n, m)
	}
}

// P10.1 to P10.4: all orders of takes, frees and flushes of two threads, up to
// five of them, on tables of few slots, new or with a slot that is nearly spent.
func TestAllOrdersOfTwo(t *testing.T) {
	for _, size := range [][2]int{{1, 1}, {1, 2}, {2, 1}, {2, 2}, {3, 2}} {
		for _, old := range []bool{false, true} {
			calls := 2 * (2 + size[0])
			many := 1
			for length := range 6 {
				for nr := range many {
					x, want := made(t, size[0], size[1]), slowOf(size[0], size[1])
					if old {
						didTake(t, x, want, 0)
						slots.Age(x, 0, lastGen-1)
						want.at[0].gen = lastGen - 1
					}
					for rest, i := nr, 0; i < length; rest, i = rest/calls, i+1 {
						did(t, x, want, rest%calls)
					}
					showsMost(t, x, want, 0, 255)
				}
				many *= calls
			}
		}
	}
}

// did does a call of one thread on both, and tells whether both answer the same.
func did(t *testing.T, x *slots.Table, want *slow, call int) {
	t.Helper()
	switch thread := call % 2 * 255; call / 2 {
	case 0:
		didTake(t, x, want, thread)
	case 1:
		didFlush(t, x, want, thread)
	default:
		didFree(t, x, want, thread, call/2-2)
	}
}

// told are the slots and generations that a table told, each just once.
type told map[pair]bool

type pair struct {
	slot int
	gen  uint32
}

// P10.1 to P10.6: calls of no pattern by several threads, with all that there is
// asked behind each, on tables that are full at times and empty at others, with
// slots some of which are spent.
func TestOrdersOfNoPattern(t *testing.T) {
	n := numbers(10)
	for _, size := range [][2]int{{1, 1}, {2, 1}, {5, 2}, {7, 3}, {16, 4}, {20, 64}, {64, 8}, {65, 64}, {100, 1}, {130, 63}} {
		x, want := made(t, size[0], size[1]), slowOf(size[0], size[1])
		seen, filling, outs, full := told{}, true, 0, 0
		for range 3000 {
			thread := threads[n.below(4)]
			takes := 2
			if filling {
				takes = 7
			}
			switch k := n.below(20); {
			case k < 2*takes:
				slot, gen, err := x.Take(thread)
				if s, g, e := want.take(thread); slot != s || gen != g || err != e {
					t.Fatalf("Take(%d) is %d, %d, %d, not %d, %d, %d", thread, slot, gen, err, s, g, e)
				}
				if err == api.OK && seen[pair{slot, gen}] {
					t.Fatalf("slot %d of generation %d is told twice", slot, gen)
				}
				seen[pair{slot, gen}] = seen[pair{slot, gen}] || err == api.OK
				if err == api.ErrOut {
					outs++
				}
				filling = filling && (err == api.OK || n.below(4) > 0)
			case k < 19:
				slot := n.below(size[0]+2) - 1
				if l := x.InUse(); len(l) > 0 && n.below(5) > 0 {
					slot = l[n.below(len(l))]
				}
				if len(x.Own(thread)) == size[1] {
					full++
				}
				didFree(t, x, want, thread, slot)
				filling = filling || len(x.InUse()) == 0
			default:
				didFlush(t, x, want, thread)
			}
			ages(x, want, &n)
			shows(t, x, want, threads...)
			apart(t, x, size[0])
		}
		if many := len(want.those(spent)); outs < 10 || size[0] >= 4*size[1] && full < 10 || size[0] > 10 && (many == 0 || many == size[0]) {
			t.Errorf("of %v %d times none was there to take, %d times a list was full, %d are spent: not enough to tell", size, outs, full, many)
		}
	}
}

// ages lets one that is in use be nearly spent, at times, but not all of them.
func ages(x *slots.Table, want *slow, n *numbers) {
	if n.below(60) > 0 {
		return
	}
	for _, slot := range want.those(used) {
		if gen := uint32(lastGen - n.below(4)); slot%3 == 1 && want.at[slot].gen < gen {
			slots.Age(x, slot, gen)
			want.at[slot].gen = gen
			return
		}
	}
}

// apart tells of a slot that is on two lists, or in use and on one; and of more
// in use and left than there are.
func apart(t *testing.T, x *slots.Table, many int) {
	t.Helper()
	l := x.InUse()
	if len(l) > many || len(l)+x.Left() > many {
		t.Fatalf("of %d %d are in use, %d left", many, len(l), x.Left())
	}
	for thread := range 256 {
		l = append(l, x.Own(thread)...)
	}
	slices.Sort(l)
	if len(slices.Compact(slices.Clone(l))) != len(l) {
		t.Fatalf("some are in two places: %v", l)
	}
}

// P10.4, P10.6: when all is flushed, and then taken by one, each slot that was
// free or of no block yet comes just once, and just those.
func TestEachFreeOneComesOnce(t *testing.T) {
	n := numbers(4)
	for range 400 {
		many, block := 1+n.below(150), 1+n.below(64)
		x, want := made(t, many, block), slowOf(many, block)
		for range n.below(4 * many) {
			thread := threads[n.below(len(threads))]
			if l := x.InUse(); len(l) > 0 && n.below(5) < 2 {
				didFree(t, x, want, thread, l[n.below(len(l))])
			} else {
				didTake(t, x, want, thread)
			}
			ages(x, want, &n)
		}
		free, left := append(want.inUse(), want.those(spent)...), x.Left()
		for _, thread := range threads {
			didFlush(t, x, want, thread)
		}
		var came []int
		for range left {
			slot, _, err := x.Take(77)
			if err != api.OK {
				t.Fatalf("%d are left, Take is %d", x.Left(), err)
			}
			came = append(came, slot)
		}
		out(t, x, 77)
		if all := append(free, came...); !slices.IsSorted(came) || len(all) != many {
			t.Fatalf("of %d there came %v", many, came)
		} else if slices.Sort(all); !slices.Equal(all, upTo(many)) {
			t.Fatalf("of %d there came, or were taken, %v", many, all)
		}
		if l := x.InUse(); len(l) > many {
			t.Fatalf("of %d %d are in use", many, len(l))
		}
	}
}

// P10.5: of a few slots that many threads take and free, no slot and generation
// are told twice, for long.
func TestNoneIsToldTwice(t *testing.T) {
	n := numbers(5)
	x, seen := made(t, 9, 2), told{}
	for range 200000 {
		slot, gen, err := x.Take(n.below(256))
		if err == api.OK {
			if seen[pair{slot, gen}] {
				t.Fatalf("slot %d of generation %d is told twice", slot, gen)
			}
			seen[pair{slot, gen}] = true
		}
		if l := x.InUse(); err != api.OK && len(l) == 0 || n.below(2) == 0 {
			x.Flush(n.below(256))
		} else if len(l) > 0 {
			freed(t, x, n.below(256), l[n.below(len(l))])
		}
		if err == api.ErrOut && n.below(3) == 0 {
			for thread := range 256 {
				x.Flush(thread)
			}
		}
	}
	if len(seen) < 10000 {
		t.Errorf("%d are too few to tell", len(seen))
	}
}

// P10.1, P10.2: on the greatest tables, calls of no pattern.
func TestOrdersOnGreatTables(t *testing.T) {
	n := numbers(6)
	for _, size := range [][2]int{{4096, 64}, {4096, 1}, {4095, 64}} {
		x, want := made(t, size[0], size[1]), slowOf(size[0], size[1])
		for i := range 6000 {
			thread := threads[n.below(3)]
			if k := n.below(10); i < 4200 && k < 9 || i >= 5200 && k < 5 {
				didTake(t, x, want, thread)
			} else if l := x.InUse(); k < 9 && len(l) > 0 {
				didFree(t, x, want, thread, l[n.below(len(l))])
			} else {
				didFlush(t, x, want, thread)
			}
			if i%500 == 499 {
				shows(t, x, want, threads...)
			}
		}
	}
}
