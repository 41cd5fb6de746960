package uses_test

import (
	"math"
	"slices"
	"testing"

	"futtock/api"
	"futtock/uses"
)

// slots, objs and threads are such as there are, the first one and the last one
// among them.
var (
	slots   = []int{0, 1, 2, 63, 255, 256, 2048, 4094, 4095}
	objs    = []int{0, 1, 2, 255, 4095, 4096, 32768, 65534, 65535}
	threads = []int{0, 1, 7, 128, 254, 255}
)

// wrongSlots, wrongObjs and wrongThreads are none, though some have the lowest
// bits of one.
var (
	wrongSlots   = append([]int{-4095, -4096, 4096, 4097, 8192, 65535, 65536}, wrongAll...)
	wrongObjs    = append([]int{-65535, -65536, 65536, 65537, 131072}, wrongAll...)
	wrongThreads = append([]int{-255, -256, 256, 257, 512, 4095, 65535, 65536}, wrongAll...)
)

// wrongAll are neither slots nor objects nor threads.
var wrongAll = []int{-1, -2, 1 << 32, 1<<32 + 1, -1 << 32, math.MaxInt, math.MaxInt - 1, math.MinInt, math.MinInt + 1}

// nobodys are books that New did not give.
func nobodys() []*uses.Book {
	return []*uses.Book{nil, {}, new(uses.Book)}
}

// pair is one of a slot, an object and a thread.
func pair(slot, obj, thread int) uses.Pair {
	return uses.Pair{Slot: slot, Obj: obj, Thread: thread}
}

// made is a book of those pairs, added as they stand.
func made(t *testing.T, those ...uses.Pair) *uses.Book {
	t.Helper()
	b := uses.New()
	if b == nil {
		t.Fatal("New is nil")
	}
	added(t, b, those...)
	return b
}

// added does Adds that may be.
func added(t *testing.T, b *uses.Book, those ...uses.Pair) {
	t.Helper()
	for _, p := range those {
		if err := b.Add(p); err != api.OK {
			t.Fatalf("Add(%v) is %d", p, err)
		}
	}
}

// refused does an Add that may not be.
func refused(t *testing.T, b *uses.Book, want api.Errno, p uses.Pair) {
	t.Helper()
	if err := b.Add(p); err != want {
		t.Fatalf("Add(%v) is %d, not %d", p, err, want)
	}
}

// dropped does Drops that may be: of those pairs, by their slots.
func dropped(t *testing.T, b *uses.Book, those ...uses.Pair) {
	t.Helper()
	for _, p := range those {
		if got, err := b.Drop(p.Slot); got != p || err != api.OK {
			t.Fatalf("Drop(%d) is %v, %d, not %v", p.Slot, got, err, p)
		}
	}
}

// missed does a Drop of a slot that is in no pair.
func missed(t *testing.T, b *uses.Book, slot int) {
	t.Helper()
	if p, err := b.Drop(slot); p != (uses.Pair{}) || err != api.ErrNone {
		t.Fatalf("Drop(%d) is %v, %d, not ErrNone", slot, p, err)
	}
}

// isOf tells whether a slot's object is that one.
func isOf(t *testing.T, b *uses.Book, slot, obj int) {
	t.Helper()
	if n, ok := b.Obj(slot); n != obj || !ok {
		t.Fatalf("Obj(%d) is %d, %v, not %d", slot, n, ok, obj)
	}
}

// isOfNone tells whether a slot is in no pair.
func isOfNone(t *testing.T, b *uses.Book, slot int) {
	t.Helper()
	if n, ok := b.Obj(slot); n != 0 || ok {
		t.Fatalf("Obj(%d) is %d, %v", slot, n, ok)
	}
}

// has tells whether an object's slot is that one.
func has(t *testing.T, b *uses.Book, obj, slot int) {
	t.Helper()
	if n, ok := b.Slot(obj); n != slot || !ok {
		t.Fatalf("Slot(%d) is %d, %v, not %d", obj, n, ok, slot)
	}
}

// hasNone tells whether an object is in no pair.
func hasNone(t *testing.T, b *uses.Book, obj int) {
	t.Helper()
	if n, ok := b.Slot(obj); n != 0 || ok {
		t.Fatalf("Slot(%d) is %d, %v", obj, n, ok)
	}
}

// lists tells whether a thread's pairs are those, in that order.
func lists(t *testing.T, b *uses.Book, thread int, those ...uses.Pair) {
	t.Helper()
	if l := b.Of(thread); !slices.Equal(l, those) {
		t.Fatalf("Of(%d) is %v, not %v", thread, l, those)
	}
}

// listsAll tells whether all pairs are those, in that order.
func listsAll(t *testing.T, b *uses.Book, those ...uses.Pair) {
	t.Helper()
	if l := b.All(); !slices.Equal(l, those) {
		t.Fatalf("All is %v, not %v", l, those)
	}
	if n := b.Len(); n != len(those) {
		t.Fatalf("Len is %d, not %d", n, len(those))
	}
}

// slow is what a book should be: of each slot its object and its thread, each
// one more than it is, 0 of a slot that is in no pair.
type slow [4096]struct{ obj, thread int }

// slowOf is one of those pairs.
func slowOf(those ...uses.Pair) *slow {
	s := &slow{}
	for _, p := range those {
		s.put(p)
	}
	return s
}

func (s *slow) put(p uses.Pair) {
	s[p.Slot].obj, s[p.Slot].thread = p.Obj+1, p.Thread+1
}

// slotOf looks for an object's slot: -1, if it is in no pair.
func (s *slow) slotOf(obj int) int {
	for slot, x := range s {
		if x.obj == obj+1 {
			return slot
		}
	}
	return -1
}

func (s *slow) add(p uses.Pair) api.Errno {
	if s[p.Slot].obj != 0 || s.slotOf(p.Obj) >= 0 {
		return api.ErrThere
	}
	s.put(p)
	return api.OK
}

func (s *slow) drop(slot int) (uses.Pair, api.Errno) {
	x := s[slot]
	if x.obj == 0 {
		return uses.Pair{}, api.ErrNone
	}
	s[slot].obj, s[slot].thread = 0, 0
	return pair(slot, x.obj-1, x.thread-1), api.OK
}

func (s *slow) all() []uses.Pair {
	var l []uses.Pair
	for slot, x := range s {
		if x.obj != 0 {
			l = append(l, pair(slot, x.obj-1, x.thread-1))
		}
	}
	return l
}

func (s *slow) of(thread int) []uses.Pair {
	var l []uses.Pair
	for _, p := range s.all() {
		if p.Thread == thread {
			l = append(l, p)
		}
	}
	return l
}

// shows tells of what a book should show and doesn't, of some slots, objects and
// threads, twice.
func shows(t *testing.T, b *uses.Book, s *slow, slots, objs, threads []int) {
	t.Helper()
	for range 2 {
		listsAll(t, b, s.all()...)
		for _, thread := range threads {
			lists(t, b, thread, s.of(thread)...)
		}
		for _, slot := range slots {
			if s[slot].obj != 0 {
				isOf(t, b, slot, s[slot].obj-1)
			} else {
				isOfNone(t, b, slot)
			}
		}
		for _, obj := range objs {
			if slot := s.slotOf(obj); slot >= 0 {
				has(t, b, obj, slot)
			} else {
				hasNone(t, b, obj)
			}
		}
	}
}

// showsAll tells of what a book should show and doesn't, of all slots, objects
// and threads that there are, and of some that are none.
func showsAll(t *testing.T, b *uses.Book, s *slow) {
	t.Helper()
	all := s.all()
	listsAll(t, b, all...)
	slotOf, mine := map[int]int{}, map[int][]uses.Pair{}
	for _, p := range all {
		slotOf[p.Obj] = p.Slot
		mine[p.Thread] = append(mine[p.Thread], p)
	}
	for slot, x := range s {
		if x.obj != 0 {
			isOf(t, b, slot, x.obj-1)
		} else {
			isOfNone(t, b, slot)
		}
	}
	for obj := range 65536 {
		if slot, there := slotOf[obj]; there {
			has(t, b, obj, slot)
		} else {
			hasNone(t, b, obj)
		}
	}
	for thread := range 256 {
		lists(t, b, thread, mine[thread]...)
	}
	showsNone(t, b)
}

// showsNone tells whether a book shows nothing of what is none.
func showsNone(t *testing.T, b *uses.Book) {
	t.Helper()
	for _, slot := range wrongSlots {
		isOfNone(t, b, slot)
	}
	for _, obj := range wrongObjs {
		hasNone(t, b, obj)
	}
	for _, thread := range wrongThreads {
		lists(t, b, thread)
	}
}

// numbers are of no pattern, and the same ones each time.
type numbers uint64

func (n *numbers) below(end int) int {
	*n = *n*6364136223846793005 + 1442695040888963407
	return int(uint64(*n) >> 33 % uint64(end))
}

// mixed are numbers from 0 on, so many, in no order.
func (n *numbers) mixed(many int) []int {
	l := make([]int, many)
	for i := range l {
		j := n.below(i + 1)
		l[i], l[j] = l[j], i
	}
	return l
}

// pairs are so many, no slot and no object in two, in no order, of so many
// threads.
func (n *numbers) pairs(many, threads int) []uses.Pair {
	slots, objs := n.mixed(4096), n.mixed(65536)
	var l []uses.Pair
	for i := range many {
		l = append(l, pair(slots[i], objs[i], n.below(threads)))
	}
	return l
}

// P11.1, P11.2: a new book has no pair; none of another one either.
func TestNew(t *testing.T) {
	showsAll(t, made(t), &slow{})
	added(t, made(t), pair(0, 0, 0), pair(4095, 65535, 255))
	b := made(t)
	showsAll(t, b, &slow{})
	added(t, b, pair(0, 0, 0))
}

// P11.1, P11.2: the document's example.
func TestSlotOfOne(t *testing.T) {
	b := made(t, pair(1, 7, 0))
	has(t, b, 7, 1)
	isOf(t, b, 1, 7)
	showsAll(t, b, slowOf(pair(1, 7, 0)))
}

// P11.1, P11.2: a pair alone, of the first and the last numbers that there are
// and others between; then it is dropped, and the book is empty.
func TestPairAlone(t *testing.T) {
	for _, slot := range slots {
		for _, obj := range objs {
			for _, thread := range threads {
				p := pair(slot, obj, thread)
				b := made(t, p)
				shows(t, b, slowOf(p), slots, objs, threads)
				showsNone(t, b)
				dropped(t, b, p)
				shows(t, b, &slow{}, slots, objs, threads)
				missed(t, b, slot)
			}
		}
	}
}

// P11.1: each slot may be in a pair, each object, and each thread may make one.
func TestAddOfAll(t *testing.T) {
	b, s := made(t), &slow{}
	for slot := range 4096 {
		p := pair(slot, 65535-16*slot, slot%256)
		added(t, b, p)
		s.put(p)
	}
	showsAll(t, b, s)
	for obj := range 65536 {
		p := pair(obj%4096, obj, obj%256)
		b := made(t, p)
		has(t, b, obj, p.Slot)
		isOf(t, b, p.Slot, obj)
		lists(t, b, p.Thread, p)
	}
}

// wrongPairs are such as one number of them, or more, is none.
func wrongPairs() []uses.Pair {
	var l []uses.Pair
	for _, slot := range wrongSlots {
		l = append(l, pair(slot, 7, 3), pair(slot, 0, 0), pair(slot, 65535, 255))
	}
	for _, obj := range wrongObjs {
		l = append(l, pair(1, obj, 3), pair(0, obj, 0), pair(4095, obj, 255))
	}
	for _, thread := range wrongThreads {
		l = append(l, pair(1, 7, thread), pair(0, 0, thread), pair(4095, 65535, thread))
	}
	for _, n := range wrongAll {
		l = append(l, pair(n, n, 3), pair(n, 7, n), pair(1, n, n), pair(n, n, n))
	}
	return l
}

// P11.1, R1, R7: an Add whose number is none is refused, and turns nothing, be
// its slot, its object, or both in pairs already, or neither.
func TestAddOfWhatMayNotBe(t *testing.T) {
	for _, those := range [][]uses.Pair{
		nil,
		{pair(1, 9, 3)},
		{pair(2, 7, 3)},
		{pair(1, 7, 3)},
		{pair(1, 9, 4), pair(2, 7, 3)},
		{pair(0, 0, 0), pair(1, 7, 3), pair(4095, 65535, 255)},
		{pair(0, 65535, 0), pair(1, 0, 3), pair(4095, 7, 255)},
	} {
		b, s := made(t, those...), slowOf(those...)
		for _, p := range wrongPairs() {
			refused(t, b, api.ErrArg, p)
			listsAll(t, b, s.all()...)
		}
		showsAll(t, b, s)
		dropped(t, b, those...)
		showsAll(t, b, &slow{})
		added(t, b, those...)
		showsAll(t, b, s)
	}
}

// P11.1, R7: an Add of what is there is refused, and turns nothing: its slot
// alone, its object alone, both in one pair, both in two.
func TestAddOfWhatIsThere(t *testing.T) {
	those := []uses.Pair{pair(0, 65535, 0), pair(4095, 0, 255), pair(5, 5, 9), pair(6, 4095, 9)}
	b, s := made(t, those...), slowOf(those...)
	for _, thread := range []int{0, 9, 255, 77} {
		for _, a := range those {
			for _, obj := range []int{1, 6, 4096, 65534} {
				refused(t, b, api.ErrThere, pair(a.Slot, obj, thread))
			}
			for _, slot := range []int{1, 4, 7, 4094} {
				refused(t, b, api.ErrThere, pair(slot, a.Obj, thread))
			}
			for _, c := range those {
				refused(t, b, api.ErrThere, pair(a.Slot, c.Obj, thread))
			}
		}
		showsAll(t, b, s)
	}
	// What was refused has taken neither its slot nor its object.
	more := []uses.Pair{pair(1, 1, 0), pair(4, 6, 9), pair(7, 4096, 255), pair(4094, 65534, 77)}
	added(t, b, more...)
	showsAll(t, b, slowOf(slices.Concat(those, more)...))
}

// P11.1: a pair that is there already is refused, by its own thread and by
// others, and stays its own one's.
func TestAddTwice(t *testing.T) {
	for _, p := range []uses.Pair{pair(0, 0, 0), pair(4095, 65535, 255), pair(1, 7, 0), pair(9, 9, 9)} {
		b := made(t, p)
		for _, thread := range append([]int{p.Thread, p.Thread}, threads...) {
			refused(t, b, api.ErrThere, pair(p.Slot, p.Obj, thread))
			shows(t, b, slowOf(p), slots, objs, threads)
		}
		lists(t, b, p.Thread, p)
		dropped(t, b, p)
		missed(t, b, p.Slot)
		shows(t, b, &slow{}, slots, objs, threads)
	}
}

// P11.1: what was dropped is added anew: as it was, with another object, with
// another slot, and by another thread; each time the one that was is gone.
func TestAddAnew(t *testing.T) {
	for _, first := range []uses.Pair{pair(0, 0, 0), pair(4095, 65535, 255), pair(1, 7, 3)} {
		for _, then := range []uses.Pair{
			first,
			pair(first.Slot, 100, first.Thread),
			pair(first.Slot, first.Obj, 100),
			pair(first.Slot, 100, 100),
			pair(100, first.Obj, first.Thread),
			pair(100, first.Obj, 100),
			pair(100, 200, first.Thread),
		} {
			other := pair(50, 51, first.Thread)
			b := made(t, first, other)
			dropped(t, b, first)
			showsAll(t, b, slowOf(other))
			added(t, b, then)
			showsAll(t, b, slowOf(other, then))
			dropped(t, b, then)
			missed(t, b, then.Slot)
			added(t, b, first)
			showsAll(t, b, slowOf(other, first))
		}
	}
}

// P11.1: two slots change their objects, as both are dropped.
func TestChangeOfObjects(t *testing.T) {
	b := made(t, pair(0, 7, 1), pair(1, 8, 2))
	dropped(t, b, pair(0, 7, 1))
	refused(t, b, api.ErrThere, pair(0, 8, 1))
	refused(t, b, api.ErrThere, pair(1, 7, 2))
	dropped(t, b, pair(1, 8, 2))
	added(t, b, pair(0, 8, 1), pair(1, 7, 2))
	showsAll(t, b, slowOf(pair(0, 8, 1), pair(1, 7, 2)))
}

// P11.1, R7: a Drop of a slot that is in no pair, or is none, is ErrNone, and
// turns nothing; so is a second one of a slot that was.
func TestDropOfNone(t *testing.T) {
	those := []uses.Pair{pair(0, 1, 1), pair(1, 4095, 0), pair(64, 0, 255), pair(4095, 65535, 1)}
	b := made(t, those...)
	for len(those) > 0 {
		for _, slot := range append([]int{2, 63, 65, 4094}, wrongSlots...) {
			missed(t, b, slot)
		}
		showsAll(t, b, slowOf(those...))
		gone := those[0]
		those = those[1:]
		dropped(t, b, gone)
		missed(t, b, gone.Slot)
		missed(t, b, gone.Slot)
		showsAll(t, b, slowOf(those...))
	}
	for slot := range 4096 {
		missed(t, b, slot)
	}
	// It is by its slot that one is dropped, not by its object.
	added(t, b, pair(3, 4, 5))
	missed(t, b, 4)
	missed(t, b, 5)
	dropped(t, b, pair(3, 4, 5))
}

// P11.2: All and Of tell the lesser slots first, though they came last, and
// though their objects and threads are greater.
func TestOrder(t *testing.T) {
	down := []uses.Pair{pair(4095, 0, 0), pair(900, 1, 9), pair(64, 2, 0), pair(10, 3, 9), pair(9, 4, 0), pair(1, 5, 9), pair(0, 6, 0)}
	up := slices.Clone(down)
	slices.Reverse(up)
	b := made(t, down...)
	listsAll(t, b, up...)
	lists(t, b, 0, up[0], up[2], up[4], up[6])
	lists(t, b, 9, up[1], up[3], up[5])
	lists(t, b, 1)
	dropped(t, b, up[2], up[0])
	added(t, b, pair(8, 4, 9), pair(0, 70, 9))
	lists(t, b, 0, up[4], up[6])
	lists(t, b, 9, pair(0, 70, 9), up[1], pair(8, 4, 9), up[3], up[5])
	listsAll(t, b, pair(0, 70, 9), up[1], pair(8, 4, 9), up[3], up[4], up[5], up[6])
}

// P11.2, R3: it is the pairs that count, not the order in which they were added,
// nor what was there between; and the same is answered each time.
func TestSamePairsTellTheSame(t *testing.T) {
	n := numbers(5)
	for range 20 {
		those := n.pairs(60, 5)
		s := slowOf(those...)
		want := s.all()
		for range 10 {
			b := made(t)
			for _, i := range n.mixed(len(those)) {
				between := pair(those[i].Slot, 65535-those[i].Obj, 4)
				if b.Add(between) == api.OK {
					dropped(t, b, between)
				}
				added(t, b, those[i])
			}
			listsAll(t, b, want...)
			for thread := range 6 {
				lists(t, b, thread, s.of(thread)...)
			}
		}
	}
}

// P11.2: of several threads each has its own pairs, one that has none nothing;
// nor has one whose last pair was dropped.
func TestOf(t *testing.T) {
	b := made(t, pair(7, 1, 255), pair(3, 2, 0), pair(5, 3, 255), pair(4, 255, 1), pair(255, 0, 1))
	lists(t, b, 0, pair(3, 2, 0))
	lists(t, b, 1, pair(4, 255, 1), pair(255, 0, 1))
	lists(t, b, 255, pair(5, 3, 255), pair(7, 1, 255))
	for thread := 2; thread < 255; thread++ {
		lists(t, b, thread)
	}
	for _, thread := range wrongThreads {
		lists(t, b, thread)
	}
	dropped(t, b, pair(3, 2, 0))
	lists(t, b, 0)
	dropped(t, b, pair(5, 3, 255))
	lists(t, b, 255, pair(7, 1, 255))
	added(t, b, pair(5, 3, 0))
	lists(t, b, 0, pair(5, 3, 0))
	lists(t, b, 255, pair(7, 1, 255))
}

// P11.1, P11.2: a book of all slots: no other pair may be, till one is dropped.
func TestFull(t *testing.T) {
	n := numbers(7)
	those := n.pairs(4096, 256)
	b, s := made(t, those...), slowOf(those...)
	showsAll(t, b, s)
	for slot := range 4096 {
		for range 4 {
			refused(t, b, api.ErrThere, pair(slot, n.below(65536), n.below(256)))
		}
	}
	showsAll(t, b, s)
	gone := those[17]
	dropped(t, b, gone)
	for _, obj := range []int{those[18].Obj, those[4095].Obj} {
		refused(t, b, api.ErrThere, pair(gone.Slot, obj, 3))
	}
	added(t, b, pair(gone.Slot, gone.Obj, 3))
	s.put(pair(gone.Slot, gone.Obj, 3))
	showsAll(t, b, s)
	for i, slot := range n.mixed(4096) {
		want, _ := s.drop(slot)
		dropped(t, b, want)
		missed(t, b, slot)
		if b.Len() != 4095-i {
			t.Fatalf("%d were dropped, Len is %d", i+1, b.Len())
		}
	}
	showsAll(t, b, &slow{})
}

// P11.2: a book that New did not give tells nothing, and is turned by nothing:
// whatever is asked.
func TestNobodys(t *testing.T) {
	for i, b := range nobodys() {
		for range 2 {
			for _, p := range append([]uses.Pair{{}, pair(1, 7, 0), pair(4095, 65535, 255)}, wrongPairs()...) {
				refused(t, b, api.ErrNil, p)
			}
			for _, slot := range slices.Concat(slots, wrongSlots) {
				if p, err := b.Drop(slot); p != (uses.Pair{}) || err != api.ErrNil {
					t.Errorf("%d: Drop(%d) is %v, %d", i, slot, p, err)
				}
			}
			showsAll(t, b, &slow{})
		}
	}
}

// R4: what All and Of answer is the caller's: to write into it turns no book and
// no other answer, and no later call turns it.
func TestAnswersAreTheCallers(t *testing.T) {
	those := []uses.Pair{pair(0, 5, 2), pair(3, 1, 2), pair(8, 0, 2)}
	b := made(t, those...)
	all, of := b.All(), b.Of(2)
	keptAll, keptOf := b.All(), b.Of(2)
	for i := range those {
		all[i], of[i] = pair(90+i, 91, 92), pair(93+i, 94, 95)
	}
	for _, l := range [][]uses.Pair{all, of} {
		_ = append(l[:1], pair(60, 61, 62), pair(63, 64, 65), pair(66, 67, 68))
	}
	showsAll(t, b, slowOf(those...))
	if all[0] != pair(90, 91, 92) || of[0] != pair(93, 94, 95) {
		t.Errorf("what was written is %v and %v by now", all, of)
	}
	dropped(t, b, those[0], those[2])
	added(t, b, pair(1, 5, 2), pair(2, 9, 2), pair(7, 8, 2))
	if b.Len() != 4 || !slices.Equal(keptAll, those) || !slices.Equal(keptOf, those) {
		t.Errorf("what was answered is %v and %v by now", keptAll, keptOf)
	}
}

// P11.3: by what is answered alone, slots and objects lead to each other, no two
// to one, behind calls of no pattern, those that are refused among them.
func TestSlotsAndObjectsLeadToEachOther(t *testing.T) {
	n := numbers(11)
	b := made(t)
	there, several := 0, 0
	for range 4000 {
		if n.below(3) == 0 {
			b.Drop(n.below(24) - 2)
		} else {
			b.Add(pair(n.below(24)-2, n.below(24)-2, n.below(5)-1))
		}
		met := 0
		for slot := -2; slot < 24; slot++ {
			if obj, ok := b.Obj(slot); ok {
				has(t, b, obj, slot)
				met++
			}
		}
		for obj := -2; obj < 24; obj++ {
			if slot, ok := b.Slot(obj); ok {
				isOf(t, b, slot, obj)
				met--
			}
		}
		if met != 0 {
			t.Fatalf("there are %d more slots than objects in pairs", met)
		}
		for _, p := range b.All() {
			has(t, b, p.Obj, p.Slot)
			isOf(t, b, p.Slot, p.Obj)
		}
		if there += b.Len(); b.Len() > 3 {
			several++
		}
	}
	if there < 4000 || several < 500 {
		t.Errorf("%d pairs were seen, several of them %d times: too few to tell", there, several)
	}
}

// P11.4: pairs that are added and dropped in any orders leave a book as it was,
// and nothing that a later call could tell.
func TestWhatWasAddedAndDroppedIsAsItWas(t *testing.T) {
	n := numbers(13)
	for _, many := range []int{0, 1, 2, 30, 1000} {
		those := n.pairs(many+40, 7)
		more := those[many:]
		those = those[:many]
		b, s := made(t, those...), slowOf(those...)
		for range 20 {
			for _, i := range n.mixed(len(more)) {
				added(t, b, more[i])
			}
			for _, i := range n.mixed(len(more)) {
				dropped(t, b, more[i])
			}
			listsAll(t, b, s.all()...)
		}
		showsAll(t, b, s)
		for _, p := range more {
			missed(t, b, p.Slot)
			added(t, b, pair(p.Slot, p.Obj, 9))
		}
		for _, p := range more {
			dropped(t, b, pair(p.Slot, p.Obj, 9))
		}
		showsAll(t, b, s)
	}
}

// P11.4: pairs of the book that are dropped and added again leave it as it was,
// too.
func TestWhatWasDroppedAndAddedIsAsItWas(t *testing.T) {
	n := numbers(17)
	those := n.pairs(200, 4)
	b, s := made(t, those...), slowOf(those...)
	for range 20 {
		for _, i := range n.mixed(len(those)) {
			dropped(t, b, those[i])
		}
		listsAll(t, b)
		for _, i := range n.mixed(len(those)) {
			added(t, b, those[i])
		}
		listsAll(t, b, s.all()...)
	}
	showsAll(t, b, s)
}

// did does one call of a book and of what it should be, of numbers below those,
// and tells what both answered.
func did(t *testing.T, n *numbers, b *uses.Book, s *slow, slots, objs, threads []int) api.Errno {
	t.Helper()
	slot := slots[n.below(len(slots))]
	if n.below(5) < 2 {
		want, wantErr := s.drop(slot)
		p, err := b.Drop(slot)
		if p != want || err != wantErr {
			t.Fatalf("Drop(%d) is %v, %d, not %v, %d", slot, p, err, want, wantErr)
		}
		return err
	}
	p := pair(slot, objs[n.below(len(objs))], threads[n.below(len(threads))])
	want := s.add(p)
	if err := b.Add(p); err != want {
		t.Fatalf("Add(%v) is %d, not %d", p, err, want)
	}
	return want
}

// P11.1 to P11.4: calls of no pattern, of few numbers and of many, with all that
// there is asked behind each.
func TestAllOrders(t *testing.T) {
	n := numbers(3)
	for _, x := range []struct{ slots, objs, threads []int }{
		{[]int{0, 4095}, []int{0, 65535}, []int{0, 255}},
		{[]int{3}, []int{5, 6}, []int{7, 8}},
		{[]int{3, 4}, []int{5}, []int{7, 8}},
		{[]int{0, 1, 2, 3, 4}, []int{0, 1, 2, 3, 4, 5}, []int{0, 1, 2}},
		{slots, objs, threads},
		{n.mixed(4096)[:40], n.mixed(65536)[:40], n.mixed(256)[:6]},
	} {
		b, s := made(t), &slow{}
		var met [16]int
		for range 1200 {
			met[did(t, &n, b, s, x.slots, x.objs, x.threads)]++
			shows(t, b, s, x.slots, x.objs, x.threads)
		}
		showsAll(t, b, s)
		if met[api.OK] < 100 || met[api.ErrNone] < 50 || met[api.ErrThere] < 50 {
			t.Errorf("OK, ErrNone and ErrThere came %d, %d and %d times: too few to tell", met[api.OK], met[api.ErrNone], met[api.ErrThere])
		}
	}
}

// P11.1, P11.2: two books do not turn each other.
func TestBooksAreApart(t *testing.T) {
	n := numbers(19)
	slots, objs, threads := []int{0, 1, 2, 3, 4095}, []int{0, 1, 2, 3, 65535}, []int{0, 1, 255}
	a, b := made(t), made(t)
	s, u := &slow{}, &slow{}
	for range 600 {
		did(t, &n, a, s, slots, objs, threads)
		shows(t, b, u, slots, objs, threads)
		did(t, &n, b, u, slots, objs, threads)
		shows(t, a, s, slots, objs, threads)
	}
}
