package record_test

import (
	"cmp"
	"math"
	"slices"
	"testing"

	"futtock/api"
	"futtock/record"
)

// sizes are numbers of places that there may be.
var sizes = []int{1, 2, 3, 8, 100, 511, 512}

// wrongSizes are such as there may not be.
var wrongSizes = []int{
	0, -1, -2, -511, -512, -513, 513, 514, 1024, 65536, 1 << 32, 1<<32 + 1, -1 << 32, math.MaxInt, math.MinInt, math.MinInt + 1,
}

// objects are such as there are, the first one and the last one among them.
var objects = []int{0, 1, 7, 8, 255, 256, 32768, 65534, 65535}

// wrongObjects are none, though some have the lowest bits of one.
var wrongObjects = []int{
	-1, -2, -65535, -65536, 65536, 65537, 65536 + 7, 1 << 17, 1 << 32, 1<<32 + 7, -1 << 32, math.MaxInt, math.MinInt, math.MinInt + 1, math.MinInt + 7,
}

// words are such as are saved: none, headers, what is no header, all bits.
var words = []uint64{0, 1, 5, 0x711, 3, 1 << 63, math.MaxUint64 - 1, math.MaxUint64}

// wrongPlaces are those at which of so many records there is none.
func wrongPlaces(many int) []int {
	return []int{
		-1, -2, -many, -many - 1, -512, many, many + 1, 2*many + 1, many + 512, many + 1<<16, many + 1<<32, 1<<32 - 1 + many, -1 << 32, math.MaxInt, math.MinInt, math.MinInt + 1,
	}
}

// nobodys are stacks that New did not give.
func nobodys() []*record.Stack {
	refused, _ := record.New(0)
	return []*record.Stack{nil, {}, new(record.Stack), refused}
}

// made is an empty stack of so many places.
func made(t *testing.T, places int) *record.Stack {
	t.Helper()
	s, err := record.New(places)
	if s == nil || err != api.OK {
		t.Fatalf("New(%d) is %v, %d", places, s, err)
	}
	return s
}

// pushed does a Push that may be.
func pushed(t *testing.T, s *record.Stack, obj int, saved uint64, want int) {
	t.Helper()
	if at, err := s.Push(obj, saved); at != want || err != api.OK {
		t.Fatalf("Push(%d, %#x) is %d, %d, not %d", obj, saved, at, err, want)
	}
}

// popped does a Pop that may be.
func popped(t *testing.T, s *record.Stack, obj int, want uint64) {
	t.Helper()
	if r, err := s.Pop(obj); r != (record.Record{Obj: obj, Saved: want}) || err != api.OK {
		t.Fatalf("Pop(%d) is %v, %d, not with %#x", obj, r, err, want)
	}
}

// saved does a Save that may be.
func saved(t *testing.T, s *record.Stack, at int, w uint64) {
	t.Helper()
	if err := s.Save(at, w); err != api.OK {
		t.Fatalf("Save(%d, %#x) is %d", at, w, err)
	}
}

// filled is a stack of so many places that has these records.
func filled(t *testing.T, places int, records []record.Record) *record.Stack {
	t.Helper()
	s := made(t, places)
	for at, r := range records {
		pushed(t, s, r.Obj, r.Saved, at)
	}
	return s
}

// shown are a stack's records, as Get tells them.
func shown(t *testing.T, s *record.Stack) []record.Record {
	t.Helper()
	var l []record.Record
	for at := range s.Len() {
		r, err := s.Get(at)
		if err != api.OK {
			t.Fatalf("of %d records Get(%d) is %d", s.Len(), at, err)
		}
		l = append(l, r)
	}
	return l
}

// shows tells of what a stack should show and doesn't, of the objects asked and
// of those that it should have, twice.
func shows(t *testing.T, s *record.Stack, want []record.Record, asked ...int) {
	t.Helper()
	var objs []int
	for _, r := range want {
		objs = append(objs, r.Obj)
	}
	slices.Sort(objs)
	objs = slices.Compact(objs)
	for range 2 {
		if s.Len() != len(want) {
			t.Fatalf("Len is %d, not %d", s.Len(), len(want))
		}
		if l := s.Objects(); !slices.Equal(l, objs) {
			t.Fatalf("Objects are %v, not %v", l, objs)
		}
		if l := shown(t, s); !slices.Equal(l, want) {
			t.Fatalf("the records are %v, not %v", l, want)
		}
		for _, at := range wrongPlaces(len(want)) {
			if r, err := s.Get(at); r != (record.Record{}) || err != api.ErrNone {
				t.Fatalf("of %d records Get(%d) is %v, %d", len(want), at, r, err)
			}
		}
		for _, obj := range slices.Concat(objs, asked, wrongObjects) {
			placed(t, s, want, obj)
		}
	}
}

// placed tells whether a stack tells the places of one object's records.
func placed(t *testing.T, s *record.Stack, want []record.Record, obj int) {
	t.Helper()
	first, top, many := -1, -1, 0
	for at := len(want) - 1; at >= 0; at-- {
		if want[at].Obj == obj {
			first, top, many = at, max(top, at), many+1
		}
	}
	if at, ok := s.First(obj); at != first || ok != (many > 0) {
		t.Fatalf("First(%d) is %d, %v, not %d", obj, at, ok, first)
	}
	if at, ok := s.Top(obj); at != top || ok != (many > 0) {
		t.Fatalf("Top(%d) is %d, %v, not %d", obj, at, ok, top)
	}
	if n := s.Count(obj); n != many {
		t.Fatalf("Count(%d) is %d, not %d", obj, n, many)
	}
}

// slow is what a stack should be: each object's own records, with the times at
// which they came. A place is how many are there that came ahead.
type slow struct {
	places, now int
	of          map[int][]came
}

type came struct {
	at    int
	saved uint64
}

func slowOf(places int) *slow {
	return &slow{places: places, of: map[int][]came{}}
}

func (s *slow) ahead(at int) int {
	n := 0
	for _, l := range s.of {
		for _, c := range l {
			if c.at < at {
				n++
			}
		}
	}
	return n
}

func (s *slow) push(obj int, saved uint64) (int, api.Errno) {
	if s.ahead(s.now) == s.places {
		return 0, api.ErrMany
	}
	s.of[obj] = append(s.of[obj], came{s.now, saved})
	s.now++
	return s.ahead(s.now - 1), api.OK
}

func (s *slow) pop(obj int) (record.Record, api.Errno) {
	l := s.of[obj]
	if len(l) == 0 {
		return record.Record{}, api.ErrNone
	}
	s.of[obj] = l[:len(l)-1]
	return record.Record{Obj: obj, Saved: l[len(l)-1].saved}, api.OK
}

func (s *slow) save(at int, saved uint64) api.Errno {
	for _, l := range s.of {
		for i, c := range l {
			if s.ahead(c.at) == at {
				l[i].saved = saved
				return api.OK
			}
		}
	}
	return api.ErrNone
}

func (s *slow) records() []record.Record {
	type placed struct {
		at int
		r  record.Record
	}
	var l []placed
	for obj, cs := range s.of {
		for _, c := range cs {
			l = append(l, placed{c.at, record.Record{Obj: obj, Saved: c.saved}})
		}
	}
	slices.SortFunc(l, func(a, b placed) int { return cmp.Compare(a.at, b.at) })
	var rs []record.Record
	for _, p := range l {
		rs = append(rs, p.r)
	}
	return rs
}

// numbers are of no pattern, and the same ones each time.
type numbers uint64

func (n *numbers) below(end int) int {
	*n = *n*6364136223846793005 + 1442695040888963407
	return int(uint64(*n) >> 33 % uint64(end))
}

// P9.1: a new stack has no records, and just so many places; one stack is not
// another one.
func TestNew(t *testing.T) {
	for _, places := range sizes {
		s, other := made(t, places), made(t, places)
		shows(t, s, nil, objects...)
		var want []record.Record
		for i := range places {
			r := record.Record{Obj: objects[i%len(objects)], Saved: words[i%len(words)]}
			pushed(t, s, r.Obj, r.Saved, i)
			want = append(want, r)
		}
		for _, obj := range objects {
			if at, err := s.Push(obj, 1); at != 0 || err != api.ErrMany {
				t.Errorf("%d places are taken, Push(%d, 1) is %d, %d", places, obj, at, err)
			}
		}
		shows(t, s, want, objects...)
		shows(t, other, nil, objects...)
		shows(t, made(t, places), nil, objects...)
	}
}

// P9.1: so many places there may not be.
func TestNewOfWhatMayNotBe(t *testing.T) {
	for _, places := range wrongSizes {
		if s, err := record.New(places); s != nil || err != api.ErrArg {
			t.Errorf("New(%d) is %v, %d", places, s, err)
		}
	}
}

// The document's example, and what is there behind it.
func TestExample(t *testing.T) {
	s := made(t, 3)
	pushed(t, s, 7, 1, 0)
	pushed(t, s, 8, 1, 1)
	pushed(t, s, 7, 0, 2)
	if n := s.Count(7); n != 2 {
		t.Errorf("Count(7) is %d", n)
	}
	popped(t, s, 7, 0)
	shows(t, s, []record.Record{{7, 1}, {8, 1}}, 7, 8, 9)
}

// P9.1, P9.2: each object that there is has records, with each word.
func TestObjectsAndWords(t *testing.T) {
	for _, obj := range objects {
		for _, w := range words {
			s := made(t, 2)
			pushed(t, s, obj, w, 0)
			shows(t, s, []record.Record{{obj, w}}, objects...)
			pushed(t, s, obj, ^w, 1)
			shows(t, s, []record.Record{{obj, w}, {obj, ^w}}, objects...)
			popped(t, s, obj, ^w)
			popped(t, s, obj, w)
			shows(t, s, nil, objects...)
		}
	}
}

// P9.1: an object that is none is refused, on an empty stack, on one that has
// room, and on a full one, where ErrArg is named ahead of ErrMany; it turns
// nothing.
func TestObjectThatIsNone(t *testing.T) {
	s := made(t, len(objects))
	var want []record.Record
	for at, obj := range append(objects, 0) {
		for _, wrong := range wrongObjects {
			if at, err := s.Push(wrong, 1); at != 0 || err != api.ErrArg {
				t.Errorf("Push(%d, 1) is %d, %d", wrong, at, err)
			}
			if r, err := s.Pop(wrong); r != (record.Record{}) || err != api.ErrNone {
				t.Errorf("Pop(%d) is %v, %d", wrong, r, err)
			}
		}
		shows(t, s, want, objects...)
		if at < len(objects) {
			pushed(t, s, obj, uint64(at), at)
			want = append(want, record.Record{Obj: obj, Saved: uint64(at)})
		}
	}
}

// P9.1: a Pop, written out, of an object whose record is the first one, the last
// one, one between, one of several, the only one, and none.
func TestPop(t *testing.T) {
	for _, x := range []struct {
		ahead  []record.Record
		obj    int
		answer record.Record
		err    api.Errno
		behind []record.Record
	}{
		{nil, 5, record.Record{}, api.ErrNone, nil},
		{nil, 0, record.Record{}, api.ErrNone, nil},
		{[]record.Record{{5, 1}}, 5, record.Record{Obj: 5, Saved: 1}, api.OK, nil},
		{[]record.Record{{5, 0}}, 5, record.Record{Obj: 5}, api.OK, nil},
		{[]record.Record{{0, 0}}, 0, record.Record{}, api.OK, nil},
		{[]record.Record{{5, 1}}, 6, record.Record{}, api.ErrNone, []record.Record{{5, 1}}},
		{[]record.Record{{5, 1}}, 0, record.Record{}, api.ErrNone, []record.Record{{5, 1}}},
		{[]record.Record{{5, 1}, {6, 2}, {7, 3}}, 5, record.Record{Obj: 5, Saved: 1}, api.OK, []record.Record{{6, 2}, {7, 3}}},
		{[]record.Record{{5, 1}, {6, 2}, {7, 3}}, 6, record.Record{Obj: 6, Saved: 2}, api.OK, []record.Record{{5, 1}, {7, 3}}},
		{[]record.Record{{5, 1}, {6, 2}, {7, 3}}, 7, record.Record{Obj: 7, Saved: 3}, api.OK, []record.Record{{5, 1}, {6, 2}}},
		{[]record.Record{{5, 1}, {6, 2}, {7, 3}}, 8, record.Record{}, api.ErrNone, []record.Record{{5, 1}, {6, 2}, {7, 3}}},
		{[]record.Record{{5, 1}, {5, 2}, {5, 3}}, 5, record.Record{Obj: 5, Saved: 3}, api.OK, []record.Record{{5, 1}, {5, 2}}},
		{[]record.Record{{5, 1}, {6, 2}, {5, 3}, {6, 4}}, 5, record.Record{Obj: 5, Saved: 3}, api.OK, []record.Record{{5, 1}, {6, 2}, {6, 4}}},
		{[]record.Record{{5, 1}, {6, 2}, {5, 3}, {6, 4}}, 6, record.Record{Obj: 6, Saved: 4}, api.OK, []record.Record{{5, 1}, {6, 2}, {5, 3}}},
		{[]record.Record{{5, 9}, {5, 9}, {6, 9}}, 5, record.Record{Obj: 5, Saved: 9}, api.OK, []record.Record{{5, 9}, {6, 9}}},
		{[]record.Record{{65535, 1}, {0, 2}, {65535, 3}, {0, 4}}, 65535, record.Record{Obj: 65535, Saved: 3}, api.OK, []record.Record{{65535, 1}, {0, 2}, {0, 4}}},
	} {
		for _, places := range []int{len(x.ahead) + 1, 100, 512} {
			s := filled(t, places, x.ahead)
			if r, err := s.Pop(x.obj); r != x.answer || err != x.err {
				t.Errorf("of %v Pop(%d) is %v, %d", x.ahead, x.obj, r, err)
			}
			shows(t, s, x.behind, objects...)
			pushed(t, s, x.obj, 77, len(x.behind))
			shows(t, s, append(slices.Clone(x.behind), record.Record{Obj: x.obj, Saved: 77}), objects...)
		}
	}
}

// P9.1: when all places are taken none is pushed, and one again when a place was
// freed, be it the first one, the last one or one between.
func TestPushWhenFull(t *testing.T) {
	for _, places := range sizes {
		for _, freed := range []int{0, places / 2, places - 1} {
			s := made(t, places)
			var want []record.Record
			for i := range places {
				pushed(t, s, 1000+i, uint64(i), i)
				want = append(want, record.Record{Obj: 1000 + i, Saved: uint64(i)})
			}
			for range 3 {
				refusesMore(t, s)
				shows(t, s, want)
				popped(t, s, want[freed].Obj, want[freed].Saved)
				gone := want[freed]
				want = append(slices.Delete(want, freed, freed+1), record.Record{Obj: gone.Obj, Saved: gone.Saved + 600})
				pushed(t, s, gone.Obj, gone.Saved+600, places-1)
			}
			refusesMore(t, s)
			shows(t, s, want)
		}
	}
}

// refusesMore tells whether a full stack refuses each Push.
func refusesMore(t *testing.T, s *record.Stack) {
	t.Helper()
	for _, obj := range append([]int{1000}, objects...) {
		for _, w := range words {
			if at, err := s.Push(obj, w); at != 0 || err != api.ErrMany {
				t.Fatalf("a full stack's Push(%d, %#x) is %d, %d", obj, w, at, err)
			}
		}
	}
}

// P9.1, P9.2: all places are of one object: the last one goes each time, and
// then there is none.
func TestOneObject(t *testing.T) {
	for _, places := range sizes {
		for _, obj := range []int{0, 65535} {
			s := made(t, places)
			var want []record.Record
			for i := range places {
				w := uint64(i)<<48 | uint64(i)
				pushed(t, s, obj, w, i)
				want = append(want, record.Record{Obj: obj, Saved: w})
			}
			for len(want) > 0 {
				last := len(want) - 1
				if last%50 == 0 || last == places-1 {
					shows(t, s, want, objects...)
				}
				popped(t, s, obj, want[last].Saved)
				want = want[:last]
			}
			shows(t, s, nil, objects...)
			if r, err := s.Pop(obj); r != (record.Record{}) || err != api.ErrNone {
				t.Errorf("Pop(%d) of nothing is %v, %d", obj, r, err)
			}
		}
	}
}

// P9.2: the objects are told once each and rising, in whatever order their
// records came.
func TestObjects(t *testing.T) {
	for _, x := range []struct {
		order, want []int
	}{
		{nil, nil},
		{[]int{0}, []int{0}},
		{[]int{65535, 0}, []int{0, 65535}},
		{[]int{3, 3, 3}, []int{3}},
		{[]int{3, 1, 3, 2, 1}, []int{1, 2, 3}},
		{[]int{256, 255, 10, 9, 100, 9, 65535, 1, 0, 256}, []int{0, 1, 9, 10, 100, 255, 256, 65535}},
	} {
		s := made(t, 10)
		for at, obj := range x.order {
			pushed(t, s, obj, 1, at)
		}
		if l := s.Objects(); !slices.Equal(l, x.want) {
			t.Errorf("behind %v Objects are %v", x.order, l)
		}
	}
	falling := made(t, 512)
	for at := range 512 {
		pushed(t, falling, 65535-128*at, 1, at)
	}
	if l := falling.Objects(); len(l) != 512 || l[0] != 127 || l[511] != 65535 || !slices.IsSorted(l) {
		t.Errorf("of 512 records, falling, Objects are %v", l)
	}
	// An object goes with the last of its records, not with one of them.
	s := filled(t, 4, []record.Record{{4, 1}, {2, 1}, {4, 1}})
	popped(t, s, 4, 1)
	if l := s.Objects(); !slices.Equal(l, []int{2, 4}) {
		t.Errorf("one record of 4 went, one is left, Objects are %v", l)
	}
	popped(t, s, 4, 1)
	if l := s.Objects(); !slices.Equal(l, []int{2}) {
		t.Errorf("all records of 4 went, Objects are %v", l)
	}
}

// P9.2: a Save at each place saves there, and nowhere else; where there is no
// record it is refused, and turns nothing.
func TestSave(t *testing.T) {
	for _, many := range []int{0, 1, 2, 5, 511, 512} {
		s := made(t, 512)
		var want []record.Record
		for at := range many {
			pushed(t, s, at%3, 100, at)
			want = append(want, record.Record{Obj: at % 3, Saved: 100})
		}
		for _, at := range []int{0, 1, many / 2, many - 2, many - 1} {
			if at < 0 || at >= many {
				continue
			}
			for _, w := range append(words, 100) {
				saved(t, s, at, w)
				want[at].Saved = w
				shows(t, s, want, objects...)
			}
			saved(t, s, at, uint64(at)+200)
			want[at].Saved = uint64(at) + 200
		}
		for _, at := range wrongPlaces(many) {
			for _, w := range words {
				if err := s.Save(at, w); err != api.ErrNone {
					t.Errorf("of %d records Save(%d, %#x) is %d", many, at, w, err)
				}
			}
		}
		shows(t, s, want, objects...)
	}
}

// P9.2: what was saved is popped, and stays with its record when one ahead goes;
// behind the last record nothing is saved that a later Push could show.
func TestSaveThenPop(t *testing.T) {
	s := filled(t, 4, []record.Record{{1, 10}, {2, 20}, {1, 30}, {3, 40}})
	saved(t, s, 0, math.MaxUint64)
	saved(t, s, 2, 0)
	saved(t, s, 3, 5)
	popped(t, s, 2, 20)
	shows(t, s, []record.Record{{1, math.MaxUint64}, {1, 0}, {3, 5}}, objects...)
	saved(t, s, 2, 6)
	if err := s.Save(3, 7); err != api.ErrNone {
		t.Errorf("of 3 records Save(3, 7) is %d", err)
	}
	popped(t, s, 1, 0)
	popped(t, s, 1, math.MaxUint64)
	pushed(t, s, 4, 8, 1)
	shows(t, s, []record.Record{{3, 6}, {4, 8}}, objects...)
}

// P9.2: a stack that New did not give has nothing, whatever is asked; and no
// call makes one of it.
func TestNobodys(t *testing.T) {
	for range 2 {
		for i, s := range nobodys() {
			for _, obj := range append(objects, wrongObjects...) {
				if at, err := s.Push(obj, 1); at != 0 || err != api.ErrNil {
					t.Errorf("%d: Push(%d, 1) is %d, %d", i, obj, at, err)
				}
				if r, err := s.Pop(obj); r != (record.Record{}) || err != api.ErrNil {
					t.Errorf("%d: Pop(%d) is %v, %d", i, obj, r, err)
				}
				if at, ok := s.Top(obj); at != -1 || ok {
					t.Errorf("%d: Top(%d) is %d, %v", i, obj, at, ok)
				}
				if at, ok := s.First(obj); at != -1 || ok {
					t.Errorf("%d: First(%d) is %d, %v", i, obj, at, ok)
				}
				if n := s.Count(obj); n != 0 {
					t.Errorf("%d: Count(%d) is %d", i, obj, n)
				}
			}
			for _, at := range append([]int{0, 1, 511}, wrongPlaces(0)...) {
				if r, err := s.Get(at); r != (record.Record{}) || err != api.ErrNil {
					t.Errorf("%d: Get(%d) is %v, %d", i, at, r, err)
				}
				if err := s.Save(at, 1); err != api.ErrNil {
					t.Errorf("%d: Save(%d, 1) is %d", i, at, err)
				}
			}
			if n, l := s.Len(), s.Objects(); n != 0 || len(l) != 0 {
				t.Errorf("%d: Len is %d, Objects are %v", i, n, l)
			}
		}
	}
}

// R4: the objects are told in a list that is the caller's: to write into it
// turns no stack, and no later call turns it.
func TestObjectsAreTheCallers(t *testing.T) {
	want := []record.Record{{9, 1}, {4, 2}, {9, 3}, {1, 4}}
	s := filled(t, 8, want)
	l, kept := s.Objects(), s.Objects()
	for i := range l {
		l[i] = 300
	}
	_ = append(l[:1], 301, 302, 303, 304)
	shows(t, s, want, objects...)
	popped(t, s, 4, 2)
	pushed(t, s, 2, 0, 3)
	s.Objects()
	if !slices.Equal(kept, []int{1, 4, 9}) {
		t.Errorf("what was answered is %v by now", kept)
	}
}

// P9.1, P9.2: all orders of pushes and pops of two objects, and of saves at the
// first place and the last one, up to five of them, on stacks of few places.
func TestAllOrdersOfTwo(t *testing.T) {
	const calls = 6
	for _, places := range []int{1, 2, 3, 5} {
		many := 1
		for length := range 6 {
			for nr := range many {
				s, want := made(t, places), slowOf(places)
				for rest, i := nr, 0; i < length; rest, i = rest/calls, i+1 {
					did(t, s, want, rest%calls, uint64(i+1))
				}
				shows(t, s, want.records(), 0, 65535, 3)
			}
			many *= calls
		}
	}
}

// did does a call on both, and tells whether both answer the same.
func did(t *testing.T, s *record.Stack, want *slow, call int, w uint64) {
	t.Helper()
	switch obj := call % 2 * 65535; call {
	case 0, 1:
		didPush(t, s, want, obj, w)
	case 2, 3:
		didPop(t, s, want, obj)
	case 4:
		didSave(t, s, want, 0, w)
	case 5:
		didSave(t, s, want, s.Len()-1, w)
	}
}

func didPush(t *testing.T, s *record.Stack, want *slow, obj int, w uint64) {
	t.Helper()
	at, err := s.Push(obj, w)
	if wantAt, wantErr := want.push(obj, w); at != wantAt || err != wantErr {
		t.Fatalf("Push(%d, %d) is %d, %d, not %d, %d", obj, w, at, err, wantAt, wantErr)
	}
}

func didPop(t *testing.T, s *record.Stack, want *slow, obj int) {
	t.Helper()
	r, err := s.Pop(obj)
	if wantR, wantErr := want.pop(obj); r != wantR || err != wantErr {
		t.Fatalf("Pop(%d) is %v, %d, not %v, %d", obj, r, err, wantR, wantErr)
	}
}

func didSave(t *testing.T, s *record.Stack, want *slow, at int, w uint64) {
	t.Helper()
	err := s.Save(at, w)
	if wantErr := want.save(at, w); err != wantErr {
		t.Fatalf("Save(%d, %d) is %d, not %d", at, w, err, wantErr)
	}
}

// P9.1 to P9.4: calls of no pattern, with all that there is asked behind each,
// on stacks that are full at times and empty at others.
func TestOrdersOfNoPattern(t *testing.T) {
	n := numbers(9)
	for _, places := range sizes {
		s, want := made(t, places), slowOf(places)
		full, empty, refused, filling := 0, 0, 0, true
		for i := range 2000 + 4*places {
			obj, w := objects[n.below(len(objects))], uint64(n.below(1<<30))<<34|uint64(i)
			pushes := 1
			if filling {
				pushes = 8
			}
			switch k := n.below(10); {
			case k < pushes:
				didPush(t, s, want, obj, w)
			case k < 9:
				if !slices.Contains(s.Objects(), obj) {
					refused++
				}
				didPop(t, s, want, obj)
			default:
				didSave(t, s, want, n.below(s.Len()+2)-1, w)
			}
			l := want.records()
			shows(t, s, l, objects...)
			// It fills till some are refused, and empties till some are.
			switch len(l) {
			case 0:
				empty++
				filling = filling || n.below(8) == 0
			case places:
				full++
				filling = filling && n.below(8) > 0
			}
		}
		if empty < 10 || refused < 10 || full < 10 {
			t.Errorf("of %d places %d times all are taken, %d times none, %d pops refused: too few to tell", places, full, empty, refused)
		}
	}
}

// P9.3: all orders in which two objects are pushed and popped as often, up to
// eight calls, on stacks that have none or some of them: each Pop is of a record
// that was pushed in that order.
func TestPushedAndPoppedAsOften(t *testing.T) {
	for _, ahead := range [][]record.Record{
		nil,
		{{1, 11}},
		{{2, 12}, {1, 13}, {3, 14}},
		{{1, 15}, {2, 16}, {1, 17}, {2, 18}},
	} {
		ended := 0
		for length := 0; length <= 8; length += 2 {
			for nr := range 1 << (2 * length) {
				if balanced(nr, length) {
					ended++
					s := filled(t, 12, ahead)
					for i := range length {
						turn(t, s, nr>>(2*i)&3, uint64(100+i))
					}
					shows(t, s, ahead, 1, 2, 3)
				}
			}
		}
		if ended < 100 {
			t.Errorf("%d orders are too few to tell", ended)
		}
	}
}

// balanced tells whether an order, two bits each, pops of each object what it
// pushed ahead, and all of that.
func balanced(order, length int) bool {
	var more [2]int
	for i := range length {
		k := order >> (2 * i) & 3
		more[k&1] += 1 - k&2
		if more[k&1] < 0 {
			return false
		}
	}
	return more == [2]int{}
}

// turn pushes a record of 1 or of 2, or pops one.
func turn(t *testing.T, s *record.Stack, k int, w uint64) {
	t.Helper()
	err := api.OK
	if obj := 1 + k&1; k&2 == 0 {
		_, err = s.Push(obj, w)
	} else {
		_, err = s.Pop(obj)
	}
	if err != api.OK {
		t.Fatalf("call %d is %d", k, err)
	}
}

// P9.3: long orders of no pattern, up to all places taken: when all that was
// pushed is popped, in whatever order of the objects, a stack is as it was.
func TestPushedAndPoppedAsOftenForLong(t *testing.T) {
	n := numbers(3)
	for range 200 {
		places := sizes[n.below(len(sizes))]
		var ahead []record.Record
		for range n.below(places) {
			ahead = append(ahead, record.Record{Obj: objects[n.below(len(objects))], Saved: words[n.below(len(words))]})
		}
		s := filled(t, places, ahead)
		var open []int
		for left := 2 * places; left > 0 || len(open) > 0; left-- {
			if left > 0 && s.Len() < places && n.below(3) > 0 {
				obj := objects[n.below(len(objects))]
				pushed(t, s, obj, uint64(left), s.Len())
				open = append(open, obj)
			} else if len(open) > 0 {
				i := n.below(len(open))
				if r, err := s.Pop(open[i]); r.Obj != open[i] || err != api.OK {
					t.Fatalf("Pop(%d) is %v, %d", open[i], r, err)
				}
				open = slices.Delete(open, i, i+1)
			}
		}
		shows(t, s, ahead, objects...)
	}
}

// others are the records of a stack that are not of an object.
func others(t *testing.T, s *record.Stack, obj int) []record.Record {
	t.Helper()
	return slices.DeleteFunc(shown(t, s), func(r record.Record) bool { return r.Obj == obj })
}

// P9.4: what is pushed, popped and saved of one object leaves the records of all
// others as they were, in their order.
func TestOthersStayInTheirOrder(t *testing.T) {
	n := numbers(4)
	for _, places := range []int{2, 3, 8, 40, 512} {
		s, gone := made(t, places), 0
		for i := range 4000 {
			obj := objects[n.below(3+i%7)]
			ahead := others(t, s, obj)
			switch n.below(5) {
			case 0, 1, 2:
				s.Push(obj, uint64(i))
			case 3:
				if at, ok := s.Top(obj); ok && at < s.Len()-1 {
					gone++
				}
				s.Pop(obj)
			case 4:
				if at, ok := s.First(obj); ok {
					saved(t, s, at, uint64(i))
				}
			}
			if behind := others(t, s, obj); !slices.Equal(behind, ahead) {
				t.Fatalf("of %d places: beside %d there were %v, and are %v", places, obj, ahead, behind)
			}
		}
		if gone < 20 {
			t.Errorf("of %d places %d pops between others are too few to tell", places, gone)
		}
	}
}
