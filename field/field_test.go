package field_test

import (
	"math"
	"slices"
	"testing"

	"futtock/field"
)

const ones = math.MaxUint64

// words are such as have something to be seen at either end, and some of no
// pattern.
var words = []uint64{
	0, 1, 2, 0x1234, 0x8000, 1 << 63, 1<<63 | 1, math.MaxInt64, ones,
	0x5555555555555555, 0xaaaaaaaaaaaaaaaa, 0x0123456789abcdef, 0xfedcba9876543210,
	0x9e3779b97f4a7c15, 0x00000000ffffffff, 0xffffffff00000000,
}

// wrong are no fields: of no width, begun or ended beyond the word, and such
// whose numbers come back into it if they are added as bytes.
var wrong = []field.Field{
	{At: 0, Width: 0}, {At: 5, Width: 0}, {At: 63, Width: 0}, {At: 64, Width: 0}, {At: 255, Width: 0},
	{At: 64, Width: 1}, {At: 255, Width: 1}, {At: 63, Width: 2}, {At: 1, Width: 64},
	{At: 0, Width: 65}, {At: 0, Width: 255}, {At: 128, Width: 128}, {At: 192, Width: 64},
	{At: 200, Width: 60}, {At: 250, Width: 10}, {At: 10, Width: 250}, {At: 255, Width: 255},
}

// allFields are all fields that there are.
func allFields() []field.Field {
	var l []field.Field
	for at := range 64 {
		for width := 1; at+width <= 64; width++ {
			l = append(l, field.Field{At: uint8(at), Width: uint8(width)})
		}
	}
	return l
}

// has tells whether a bit is the field's.
func has(f field.Field, bit int) bool {
	return bit >= int(f.At) && bit < int(f.At)+int(f.Width)
}

// bit is one bit of a word.
func bit(w uint64, n int) uint64 {
	return w >> n % 2
}

// slowMask has the field's bits, one by one.
func slowMask(f field.Field) uint64 {
	var w uint64
	for n := range 64 {
		if has(f, n) {
			w |= 1 << n
		}
	}
	return w
}

// slowGet is the field's value, bit by bit.
func slowGet(f field.Field, w uint64) uint64 {
	var v uint64
	for n := range int(f.Width) {
		v |= bit(w, int(f.At)+n) << n
	}
	return v
}

// slowPut is the word with a value, bit by bit.
func slowPut(f field.Field, w, v uint64) uint64 {
	var out uint64
	for n := range 64 {
		if has(f, n) {
			out |= bit(v, n-int(f.At)) << n
		} else {
			out |= bit(w, n) << n
		}
	}
	return out
}

// slowSigned is the field's value, with its highest bit counted below 0.
func slowSigned(f field.Field, w uint64) int64 {
	var sum int64
	for n := range int(f.Width) {
		if bit(w, int(f.At)+n) == 1 {
			if n == int(f.Width)-1 {
				sum -= 1 << n
			} else {
				sum += 1 << n
			}
		}
	}
	return sum
}

// P1.1: May.
func TestMay(t *testing.T) {
	for at := range 256 {
		for width := range 256 {
			f := field.Field{At: uint8(at), Width: uint8(width)}
			want := at <= 63 && width >= 1 && width <= 64-at
			if got := f.May(); got != want {
				t.Fatalf("%v: May is %v", f, got)
			}
		}
	}
	if n := len(allFields()); n != 2080 {
		t.Fatalf("%d fields", n)
	}
}

// P1.1: of one that is none all answers are 0, false, or the word as it was.
func TestNoField(t *testing.T) {
	for _, f := range wrong {
		if f.May() {
			t.Fatalf("%v: May", f)
		}
		if f.Most() != 0 || f.Mask() != 0 {
			t.Fatalf("%v: Most is %d, Mask %#x", f, f.Most(), f.Mask())
		}
		for _, w := range words {
			if f.Get(w) != 0 || f.Signed(w) != 0 {
				t.Fatalf("%v of %#x: Get is %#x, Signed %d", f, w, f.Get(w), f.Signed(w))
			}
			if f.Fits(w) {
				t.Fatalf("%v: Fits %#x", f, w)
			}
			for _, v := range words {
				if got := f.Put(w, v); got != w {
					t.Fatalf("%v: Put(%#x, %#x) is %#x", f, w, v, got)
				}
			}
		}
	}
}

// P1.1: Most and Mask, at numbers that are written out.
func TestMostAndMask(t *testing.T) {
	for _, c := range []struct {
		f          field.Field
		most, mask uint64
	}{
		{field.Field{At: 0, Width: 64}, ones, ones},
		{field.Field{At: 0, Width: 63}, math.MaxInt64, math.MaxInt64},
		{field.Field{At: 1, Width: 63}, math.MaxInt64, ones - 1},
		{field.Field{At: 0, Width: 1}, 1, 1},
		{field.Field{At: 63, Width: 1}, 1, 1 << 63},
		{field.Field{At: 8, Width: 8}, 0xff, 0xff00},
		{field.Field{At: 3, Width: 4}, 15, 0x78},
		{field.Field{At: 24, Width: 24}, 1<<24 - 1, 0xffffff000000},
	} {
		if got := c.f.Most(); got != c.most {
			t.Errorf("%v: Most is %#x", c.f, got)
		}
		if got := c.f.Mask(); got != c.mask {
			t.Errorf("%v: Mask is %#x", c.f, got)
		}
	}
	for _, f := range allFields() {
		if f.Mask() != slowMask(f) || f.Most() != slowGet(f, ones) {
			t.Fatalf("%v: Mask is %#x, Most %#x", f, f.Mask(), f.Most())
		}
	}
}

// P1.1: Get and Signed, at numbers that are written out.
func TestGetAndSigned(t *testing.T) {
	for _, c := range []struct {
		f      field.Field
		w      uint64
		get    uint64
		signed int64
	}{
		{field.Field{At: 8, Width: 8}, 0x1234, 0x12, 0x12},
		{field.Field{At: 8, Width: 8}, 0x8000, 0x80, -128},
		{field.Field{At: 8, Width: 8}, 0x7fff, 0x7f, 127},
		{field.Field{At: 8, Width: 8}, 0xff00, 0xff, -1},
		{field.Field{At: 8, Width: 8}, 0xffff00ff, 0, 0},
		{field.Field{At: 0, Width: 64}, 0x1234, 0x1234, 0x1234},
		{field.Field{At: 0, Width: 64}, ones, ones, -1},
		{field.Field{At: 0, Width: 64}, 1 << 63, 1 << 63, math.MinInt64},
		{field.Field{At: 0, Width: 64}, math.MaxInt64, math.MaxInt64, math.MaxInt64},
		{field.Field{At: 0, Width: 63}, ones, math.MaxInt64, -1},
		{field.Field{At: 1, Width: 63}, 1 << 63, 1 << 62, -1 << 62},
		{field.Field{At: 0, Width: 1}, 1, 1, -1},
		{field.Field{At: 0, Width: 1}, ones - 1, 0, 0},
		{field.Field{At: 63, Width: 1}, 1 << 63, 1, -1},
		{field.Field{At: 63, Width: 1}, math.MaxInt64, 0, 0},
		{field.Field{At: 62, Width: 2}, 1 << 62, 1, 1},
		{field.Field{At: 62, Width: 2}, 1 << 63, 2, -2},
	} {
		if got := c.f.Get(c.w); got != c.get {
			t.Errorf("%v of %#x: Get is %#x", c.f, c.w, got)
		}
		if got := c.f.Signed(c.w); got != c.signed {
			t.Errorf("%v of %#x: Signed is %d", c.f, c.w, got)
		}
	}
	for _, f := range allFields() {
		for _, w := range words {
			if got := f.Get(w); got != slowGet(f, w) {
				t.Fatalf("%v of %#x: Get is %#x", f, w, got)
			}
			if got := f.Signed(w); got != slowSigned(f, w) {
				t.Fatalf("%v of %#x: Signed is %d", f, w, got)
			}
		}
	}
}

// P1.1: Put takes the lowest bits of a value, and all else stays.
func TestPut(t *testing.T) {
	for _, c := range []struct {
		f          field.Field
		w, v, want uint64
	}{
		{field.Field{At: 8, Width: 8}, 0, 0x12, 0x1200},
		{field.Field{At: 8, Width: 8}, ones, 0, ones - 0xff00},
		{field.Field{At: 8, Width: 8}, 0x1234, 0xff, 0xff34},
		{field.Field{At: 8, Width: 8}, 0x1234, 0x7ab, 0xab34},
		{field.Field{At: 0, Width: 64}, 0x1234, ones, ones},
		{field.Field{At: 0, Width: 64}, ones, 0x1234, 0x1234},
		{field.Field{At: 63, Width: 1}, 5, 1, 1<<63 | 5},
		{field.Field{At: 63, Width: 1}, ones, 2, math.MaxInt64},
		{field.Field{At: 0, Width: 1}, 4, 3, 5},
	} {
		if got := c.f.Put(c.w, c.v); got != c.want {
			t.Errorf("%v: Put(%#x, %#x) is %#x", c.f, c.w, c.v, got)
		}
	}
	for _, f := range allFields() {
		for _, w := range words {
			for _, v := range words {
				if got := f.Put(w, v); got != slowPut(f, w, v) {
					t.Fatalf("%v: Put(%#x, %#x) is %#x", f, w, v, got)
				}
			}
		}
	}
}

// P1.1: Fits, around the greatest value of each field.
func TestFits(t *testing.T) {
	for _, f := range allFields() {
		most := slowGet(f, ones)
		if !f.Fits(0) || !f.Fits(most) {
			t.Fatalf("%v: 0 or %#x does not fit", f, most)
		}
		if most < ones && (f.Fits(most+1) || f.Fits(ones)) {
			t.Fatalf("%v: more than %#x fits", f, most)
		}
	}
}

// P1.2: Apart.
func TestApart(t *testing.T) {
	for _, c := range []struct {
		fields []field.Field
		want   bool
	}{
		{nil, true},
		{[]field.Field{}, true},
		{[]field.Field{{At: 0, Width: 64}}, true},
		{[]field.Field{{At: 0, Width: 32}, {At: 32, Width: 32}}, true},
		{[]field.Field{{At: 63, Width: 1}, {At: 0, Width: 63}}, true},
		{[]field.Field{{At: 3, Width: 4}, {At: 24, Width: 16}, {At: 8, Width: 8}}, true},
		{[]field.Field{{At: 0, Width: 33}, {At: 32, Width: 32}}, false},
		{[]field.Field{{At: 8, Width: 8}, {At: 8, Width: 8}}, false},
		{[]field.Field{{At: 0, Width: 64}, {At: 63, Width: 1}}, false},
		{[]field.Field{{At: 0, Width: 1}, {At: 0, Width: 64}}, false},
		{[]field.Field{{At: 0, Width: 8}, {At: 16, Width: 8}, {At: 7, Width: 1}}, false},
		{[]field.Field{{At: 0, Width: 8}, {At: 16, Width: 8}, {At: 23, Width: 2}}, false},
	} {
		if got := field.Apart(c.fields...); got != c.want {
			t.Errorf("%v: Apart is %v", c.fields, got)
		}
	}
	if !field.Apart() {
		t.Error("no fields at all are not Apart")
	}
}

// P1.2: two fields are apart, if no bit is of both, in either order.
func TestApartOfTwo(t *testing.T) {
	l := allFields()
	for _, a := range l {
		for _, b := range l {
			want := slowMask(a)&slowMask(b) == 0
			if field.Apart(a, b) != want {
				t.Fatalf("%v, %v: Apart is %v", a, b, !want)
			}
		}
	}
}

// P1.2: where one is no field, none are apart, wherever it stands.
func TestApartOfNoField(t *testing.T) {
	good := field.Field{At: 8, Width: 8}
	for _, f := range wrong {
		if field.Apart(f) || field.Apart(f, good) || field.Apart(good, f) || field.Apart(f, f) {
			t.Fatalf("%v: Apart", f)
		}
	}
}

// P1.2: each bit a field, any number of them, and one too many.
func TestApartOfAllBits(t *testing.T) {
	var l []field.Field
	for n := range 64 {
		l = append(l, field.Field{At: uint8(n), Width: 1})
		if !field.Apart(l...) {
			t.Fatalf("%d bits are not Apart", n+1)
		}
	}
	for n := range 64 {
		if field.Apart(append(slices.Clone(l), l[n])...) {
			t.Fatalf("bit %d twice is Apart", n)
		}
	}
}

// P1.2: Join of what may be joined.
func TestJoin(t *testing.T) {
	for _, c := range []struct {
		fields []field.Field
		values []uint64
		want   uint64
	}{
		{nil, nil, 0},
		{nil, []uint64{}, 0},
		{[]field.Field{}, nil, 0},
		{[]field.Field{{At: 0, Width: 64}}, []uint64{ones}, ones},
		{[]field.Field{{At: 63, Width: 1}}, []uint64{1}, 1 << 63},
		{[]field.Field{{At: 8, Width: 8}}, []uint64{0xff}, 0xff00},
		{[]field.Field{{At: 8, Width: 8}, {At: 0, Width: 4}}, []uint64{0x12, 4}, 0x1204},
		{[]field.Field{{At: 0, Width: 3}, {At: 8, Width: 16}, {At: 24, Width: 24}}, []uint64{2, 0, 1}, 1<<24 | 2},
	} {
		if w, ok := field.Join(c.fields, c.values); w != c.want || !ok {
			t.Errorf("%v, %v: Join is %#x, %v", c.fields, c.values, w, ok)
		}
	}
}

// P1.2: what may not be joined is 0 and false.
func TestJoinOfWrong(t *testing.T) {
	low, high := field.Field{At: 0, Width: 8}, field.Field{At: 56, Width: 8}
	bit63 := field.Field{At: 63, Width: 1}
	for _, c := range []struct {
		fields []field.Field
		values []uint64
	}{
		{nil, []uint64{0}},
		{[]field.Field{low}, nil},
		{[]field.Field{low, high}, []uint64{1}},
		{[]field.Field{low}, []uint64{1, 0}},
		{[]field.Field{low}, []uint64{256}},
		{[]field.Field{low, high}, []uint64{1, 256}},
		{[]field.Field{low, high}, []uint64{ones, 1}},
		{[]field.Field{bit63}, []uint64{2}},
		{[]field.Field{low, low}, []uint64{1, 1}},
		{[]field.Field{low, low}, []uint64{0, 0}},
		{[]field.Field{high, bit63}, []uint64{1, 0}},
		{[]field.Field{low, {At: 8, Width: 0}}, []uint64{1, 0}},
		{[]field.Field{{At: 60, Width: 5}, low}, []uint64{0, 1}},
		{[]field.Field{low, {At: 255, Width: 1}}, []uint64{1, 0}},
	} {
		if w, ok := field.Join(c.fields, c.values); w != 0 || ok {
			t.Errorf("%v, %v: Join is %#x, %v", c.fields, c.values, w, ok)
		}
	}
}

// P1.2: Split tells of each, in order, whether or not they are apart, and 0
// of what is no field.
func TestSplit(t *testing.T) {
	fields := []field.Field{
		{At: 8, Width: 8}, {At: 0, Width: 64}, {At: 0, Width: 8}, {At: 60, Width: 5},
		{At: 8, Width: 8}, {At: 0, Width: 0}, {At: 63, Width: 1},
	}
	w := uint64(1<<63 | 0x1234)
	want := []uint64{0x12, w, 0x34, 0, 0x12, 0, 1}
	if got := field.Split(fields, w); !slices.Equal(got, want) {
		t.Errorf("Split is %#x", got)
	}
	for _, none := range [][]field.Field{nil, {}} {
		if got := field.Split(none, ones); len(got) != 0 {
			t.Errorf("Split of no fields is %#x", got)
		}
	}
}

// R4: what is handed in stays, and what is answered is the caller's.
func TestListsStay(t *testing.T) {
	fields := []field.Field{{At: 8, Width: 8}, {At: 0, Width: 8}}
	values := []uint64{0x12, 0x34}
	oldFields, oldValues := slices.Clone(fields), slices.Clone(values)
	field.Apart(fields...)
	field.Join(fields, values)
	first := field.Split(fields, 0x1234)
	first[0], first[1] = 7, 7
	if got := field.Split(fields, 0x1234); !slices.Equal(got, oldValues) {
		t.Errorf("Split is %#x, once its answer was written into", got)
	}
	if !slices.Equal(fields, oldFields) || !slices.Equal(values, oldValues) {
		t.Errorf("now %v, %v", fields, values)
	}
}

// P1.3: what is put is got, and other fields stay.
func TestPutIsGot(t *testing.T) {
	l := allFields()
	for _, f := range l {
		for _, w := range words {
			for _, v := range words {
				if got := f.Get(f.Put(w, v)); got != v&f.Most() {
					t.Fatalf("%v of %#x: put is %#x, got %#x", f, w, v, got)
				}
			}
		}
	}
	for i, f := range l {
		w := words[i%len(words)]
		now := f.Put(w, ^w>>f.At)
		for _, o := range l {
			if slowMask(f)&slowMask(o) == 0 && o.Get(now) != o.Get(w) {
				t.Fatalf("%v put into %#x turns %v", f, w, o)
			}
		}
	}
}

// cut are fields that a word is cut into at some of its bits.
func cut(at uint64) []field.Field {
	var l []field.Field
	begin := 0
	for n := 1; n <= 64; n++ {
		if n == 64 || bit(at, n) == 1 {
			l = append(l, field.Field{At: uint8(begin), Width: uint8(n - begin)})
			begin = n
		}
	}
	return l
}

// P1.4: what is joined is split to the same; and fields that are the whole
// word join what was split to that word.
func TestJoinedIsSplit(t *testing.T) {
	for _, at := range words {
		for _, w := range words {
			fields := cut(at)
			slices.Reverse(fields)
			values := field.Split(fields, w)
			joined, ok := field.Join(fields, values)
			if !ok || joined != w {
				t.Fatalf("%v: %#x is joined to %#x, %v", fields, w, joined, ok)
			}
			fields, values = fields[:len(fields)/2], values[:len(fields)/2]
			joined, ok = field.Join(fields, values)
			if got := field.Split(fields, joined); !ok || !slices.Equal(got, values) {
				t.Fatalf("%v: %#x is split to %#x, %v", fields, values, got, ok)
			}
			for _, f := range fields {
				joined &^= slowMask(f)
			}
			if joined != 0 {
				t.Fatalf("%v: Join has other bits, %#x", fields, joined)
			}
		}
	}
}
