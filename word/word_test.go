package word_test

import (
	"math"
	"testing"

	"futtock/api"
	"futtock/word"
)

// pair is a header and its word, both written out.
type pair struct {
	h word.Header
	w uint64
}

// pairs are ordinary ones of each kind, and each field at 0 and at its
// greatest value, alone and with all others.
var pairs = []pair{
	{word.Header{Kind: word.Thin, Owner: 1}, 1 << 24},
	{word.Header{Kind: word.Thin, Owner: 3, Record: 5}, 0x3000500},
	{word.Header{Kind: word.Thin, Owner: 1, Record: 0xffff}, 0x1ffff00},
	{word.Header{Kind: word.Thin, Owner: 0xffff}, 0xffff000000},
	{word.Header{Kind: word.Thin, Owner: 0xffff, Record: 0xffff}, 0xffffffff00},

	{word.Header{Kind: word.Neutral}, 1},
	{word.Header{Kind: word.Neutral, Age: 2, Hash: 7}, 0x711},
	{word.Header{Kind: word.Neutral, Age: 14}, 0x71},
	{word.Header{Kind: word.Neutral, Age: 15}, 0x79},
	{word.Header{Kind: word.Neutral, Hash: 1}, 0x101},
	{word.Header{Kind: word.Neutral, Hash: 1<<31 - 1}, 0x7fffffff01},
	{word.Header{Kind: word.Neutral, Age: 15, Hash: 1<<31 - 1}, 0x7fffffff79},

	{word.Header{Kind: word.Fat}, 2},
	{word.Header{Kind: word.Fat, Slot: 3, Gen: 9}, 0x9000302},
	{word.Header{Kind: word.Fat, Slot: 0xffff}, 0xffff02},
	{word.Header{Kind: word.Fat, Gen: 1<<24 - 1}, 0xffffff000002},
	{word.Header{Kind: word.Fat, Slot: 0xffff, Gen: 1<<24 - 1}, 0xffffffffff02},

	{word.Header{Kind: word.Biased}, 5},
	{word.Header{Kind: word.Biased, Age: 1, Epoch: 2, Owner: 3}, 0x300020d},
	{word.Header{Kind: word.Biased, Age: 14}, 0x75},
	{word.Header{Kind: word.Biased, Age: 15}, 0x7d},
	{word.Header{Kind: word.Biased, Epoch: 0xff}, 0xff05},
	{word.Header{Kind: word.Biased, Owner: 1}, 0x1000005},
	{word.Header{Kind: word.Biased, Owner: 0xffff}, 0xffff000005},
	{word.Header{Kind: word.Biased, Age: 15, Epoch: 0xff, Owner: 0xffff}, 0xffff00ff7d},

	{word.Header{Kind: word.Inflating}, 0},
}

// wrongHeaders may not be: a kind that is none, a field that does not fit, a
// field of another kind, a Thin one of nobody.
var wrongHeaders = []word.Header{
	{}, {Age: 1}, {Owner: 1}, {Kind: 6}, {Kind: 7}, {Kind: -1}, {Kind: -4, Owner: 1},
	{Kind: 1<<32 + 1, Owner: 1}, {Kind: 1<<32 + 2}, {Kind: 1<<32 + 5},
	{Kind: 257, Owner: 1}, {Kind: 258}, {Kind: math.MaxInt}, {Kind: math.MinInt},

	{Kind: word.Thin}, {Kind: word.Thin, Record: 1}, {Kind: word.Thin, Record: 0xffff},

	{Kind: word.Neutral, Age: 16}, {Kind: word.Neutral, Age: 0xff}, {Kind: word.Neutral, Age: 0xf0, Hash: 1},
	{Kind: word.Neutral, Hash: 1 << 31}, {Kind: word.Neutral, Hash: math.MaxUint32},
	{Kind: word.Fat, Gen: 1 << 24}, {Kind: word.Fat, Gen: math.MaxUint32}, {Kind: word.Fat, Gen: 1<<31 + 1},
	{Kind: word.Biased, Age: 16}, {Kind: word.Biased, Age: 0xff},

	{Kind: word.Thin, Owner: 1, Age: 1}, {Kind: word.Thin, Owner: 1, Epoch: 1},
	{Kind: word.Thin, Owner: 1, Hash: 1}, {Kind: word.Thin, Owner: 1, Slot: 1}, {Kind: word.Thin, Owner: 1, Gen: 1},
	{Kind: word.Neutral, Epoch: 1}, {Kind: word.Neutral, Owner: 1}, {Kind: word.Neutral, Record: 1},
	{Kind: word.Neutral, Slot: 1}, {Kind: word.Neutral, Gen: 1},
	{Kind: word.Fat, Age: 1}, {Kind: word.Fat, Epoch: 1}, {Kind: word.Fat, Hash: 1},
	{Kind: word.Fat, Owner: 1}, {Kind: word.Fat, Record: 1},
	{Kind: word.Biased, Hash: 1}, {Kind: word.Biased, Record: 1}, {Kind: word.Biased, Slot: 1}, {Kind: word.Biased, Gen: 1},
	{Kind: word.Inflating, Age: 1}, {Kind: word.Inflating, Epoch: 1}, {Kind: word.Inflating, Hash: 1},
	{Kind: word.Inflating, Owner: 1}, {Kind: word.Inflating, Record: 1}, {Kind: word.Inflating, Slot: 1},
	{Kind: word.Inflating, Gen: 1},
}

// wrongWords are no header's: lowest bits that are no kind's, a bit beside
// the fields, a Thin one of nobody.
var wrongWords = []uint64{
	3, 4, 6, 7, 0x1000003, 0x1000004, 0x1000006, 0x1000007, 0x7b, 0x7f, math.MaxUint64,
	1 << 3, 1 << 7, 1<<24 | 1<<3, 1<<24 | 1<<6, 1<<24 | 1<<7, 1<<24 | 1<<40, 1<<24 | 1<<63,
	1<<7 | 1, 1<<39 | 1, 1<<40 | 1, 1<<63 | 1,
	1<<3 | 2, 1<<6 | 2, 1<<7 | 2, 1<<48 | 2, 1<<63 | 2,
	1<<7 | 5, 1<<16 | 5, 1<<23 | 5, 1<<40 | 5, 1<<63 | 5,
	1 << 8, 1 << 23, 0xffff00, 1 << 40, 1 << 63,
}

// part is the number of some bits of a word.
func part(w uint64, at, width int) uint64 {
	return w / (1 << at) % (1 << width)
}

// slowMay tells whether a header may be, field by field.
func slowMay(h word.Header) bool {
	age, epoch, hash := h.Age == 0, h.Epoch == 0, h.Hash == 0
	owner, record, slot, gen := h.Owner == 0, h.Record == 0, h.Slot == 0, h.Gen == 0
	switch h.Kind {
	case 1:
		owner, record = !owner, true
	case 2:
		age, hash = h.Age <= 15, h.Hash <= 2147483647
	case 3:
		slot, gen = true, h.Gen <= 16777215
	case 4:
		age, epoch, owner = h.Age <= 15, true, true
	case 5:
	default:
		return false
	}
	return age && epoch && hash && owner && record && slot && gen
}

// slowRead is a word's header, and whether it has one; it tells the bits
// beside the fields by a number that is written out for each kind.
func slowRead(w uint64) (word.Header, bool) {
	age, owner := uint8(part(w, 3, 4)), uint16(part(w, 24, 16))
	if w == 0 {
		return word.Header{Kind: 5}, true
	}
	var h word.Header
	var beside uint64
	switch w % 8 {
	case 0:
		h = word.Header{Kind: 1, Record: uint16(part(w, 8, 16)), Owner: owner}
		beside = 0xffffff00000000ff
	case 1:
		h = word.Header{Kind: 2, Age: age, Hash: uint32(part(w, 8, 31))}
		beside = 0xffffff8000000086
	case 2:
		h = word.Header{Kind: 3, Slot: uint16(part(w, 8, 16)), Gen: uint32(part(w, 24, 24))}
		beside = 0xffff0000000000fd
	case 5:
		h = word.Header{Kind: 4, Age: age, Epoch: uint8(part(w, 8, 8)), Owner: owner}
		beside = 0xffffff0000ff0082
	default:
		return word.Header{}, false
	}
	if w&beside != 0 || !slowMay(h) {
		return word.Header{}, false
	}
	return h, true
}

// eachHeader hands on headers of all kinds, and of some that are none, each
// field of them at values around its ends.
func eachHeader(do func(word.Header)) {
	for kind := -1; kind <= 7; kind++ {
		for _, age := range []uint8{0, 14, 15, 16, 255} {
			for _, epoch := range []uint8{0, 1, 255} {
				for _, hash := range []uint32{0, 1, 1<<31 - 1, 1 << 31, math.MaxUint32} {
					for _, owner := range []uint16{0, 1, 0xffff} {
						for _, record := range []uint16{0, 1, 0xffff} {
							for _, slot := range []uint16{0, 1, 0xffff} {
								for _, gen := range []uint32{0, 1, 1<<24 - 1, 1 << 24, math.MaxUint32} {
									do(word.Header{Kind: kind, Age: age, Epoch: epoch, Hash: hash,
										Owner: owner, Record: record, Slot: slot, Gen: gen})
								}
							}
						}
					}
				}
			}
		}
	}
}

// eachWord hands on words: those of pairs and wrongWords, each with up to two
// bits turned, and words of no pattern, whole and cut to their lower bits.
func eachWord(do func(uint64)) {
	first := append([]uint64{}, wrongWords...)
	for _, p := range pairs {
		first = append(first, p.w)
	}
	for _, w := range first {
		do(w)
		for a := range 64 {
			for b := range a + 1 {
				do(w ^ 1<<a ^ 1<<b)
			}
			do(w ^ 1<<a)
		}
	}
	w := uint64(1)
	for range 20000 {
		w = w*6364136223846793005 + 1442695040888963407
		for cut := range 64 {
			do(w >> cut)
		}
	}
}

// The kinds are numbers that the document tells.
func TestKinds(t *testing.T) {
	got := []int{word.Thin, word.Neutral, word.Fat, word.Biased, word.Inflating}
	for i, k := range got {
		if k != i+1 {
			t.Errorf("the kind %d is %d", i+1, k)
		}
	}
}

// P2.1: what may be has its word, and that word its header and its kind.
func TestPairs(t *testing.T) {
	for _, p := range pairs {
		if !word.May(p.h) {
			t.Errorf("%+v may not be", p.h)
		}
		if w, err := word.Code(p.h); w != p.w || err != api.OK {
			t.Errorf("%+v: Code is %#x, %d", p.h, w, err)
		}
		if h, err := word.Read(p.w); h != p.h || err != api.OK {
			t.Errorf("%#x: Read is %+v, %d", p.w, h, err)
		}
		if k := word.Kind(p.w); k != p.h.Kind {
			t.Errorf("%#x: Kind is %d", p.w, k)
		}
	}
}

// P2.1: what may not be is ErrArg, and has no word.
func TestWrongHeaders(t *testing.T) {
	for _, h := range wrongHeaders {
		if word.May(h) {
			t.Errorf("%+v may be", h)
		}
		if w, err := word.Code(h); w != 0 || err != api.ErrArg {
			t.Errorf("%+v: Code is %#x, %d", h, w, err)
		}
	}
}

// P2.1: what is no header's word is ErrForm, and has neither header nor kind.
func TestWrongWords(t *testing.T) {
	for _, w := range wrongWords {
		if h, err := word.Read(w); h != (word.Header{}) || err != api.ErrForm {
			t.Errorf("%#x: Read is %+v, %d", w, h, err)
		}
		if k := word.Kind(w); k != 0 {
			t.Errorf("%#x: Kind is %d", w, k)
		}
	}
}

// P2.1: of the word 0, and of those that are next to it.
func TestLowestWords(t *testing.T) {
	for w, want := range []int{word.Inflating, word.Neutral, word.Fat, 0, 0, word.Biased, 0, 0, 0, word.Neutral} {
		if k := word.Kind(uint64(w)); k != want {
			t.Errorf("%d: Kind is %d", w, k)
		}
	}
}

// P2.1: May and Code of all fields together.
func TestMayFieldByField(t *testing.T) {
	eachHeader(func(h word.Header) {
		want := slowMay(h)
		if word.May(h) != want {
			t.Fatalf("%+v: May is %v", h, !want)
		}
		if w, err := word.Code(h); (err == api.OK) != want || !want && (w != 0 || err != api.ErrArg) {
			t.Fatalf("%+v: Code is %#x, %d", h, w, err)
		}
	})
}

// P2.1: Read and Kind bit by bit.
func TestReadBitByBit(t *testing.T) {
	eachWord(func(w uint64) {
		want, may := slowRead(w)
		h, err := word.Read(w)
		if h != want || may != (err == api.OK) || !may && err != api.ErrForm {
			t.Fatalf("%#x: Read is %+v, %d", w, h, err)
		}
		if k := word.Kind(w); k != want.Kind {
			t.Fatalf("%#x: Kind is %d", w, k)
		}
	})
}

// P2.2: Older of each age, and of the greatest one, which stays.
func TestOlder(t *testing.T) {
	for _, h := range []word.Header{
		{Kind: word.Neutral}, {Kind: word.Neutral, Hash: 1<<31 - 1}, {Kind: word.Neutral, Hash: 77},
		{Kind: word.Biased}, {Kind: word.Biased, Epoch: 255, Owner: 0xffff}, {Kind: word.Biased, Epoch: 3, Owner: 2},
	} {
		for age := range uint8(16) {
			h.Age = age
			old, _ := word.Code(h)
			h.Age = min(age+1, 15)
			want, _ := word.Code(h)
			if w, err := word.Older(old); w != want || err != api.OK {
				t.Errorf("%#x: Older is %#x, %d", old, w, err)
			}
		}
	}
	for _, c := range [][2]uint64{{1, 9}, {5, 0xd}, {0x71, 0x79}, {0x79, 0x79}, {0x75, 0x7d}, {0x7d, 0x7d}, {0x739, 0x741}} {
		if w, err := word.Older(c[0]); w != c[1] || err != api.OK {
			t.Errorf("%#x: Older is %#x, %d", c[0], w, err)
		}
	}
}

// P2.2: a header without an Age is ErrArg; what is no header's word is
// ErrForm, be its Age what it may.
func TestOlderOfNoAge(t *testing.T) {
	for _, p := range pairs {
		if p.h.Kind == word.Neutral || p.h.Kind == word.Biased {
			continue
		}
		if w, err := word.Older(p.w); w != 0 || err != api.ErrArg {
			t.Errorf("%#x: Older is %#x, %d", p.w, w, err)
		}
	}
	for _, w := range wrongWords {
		if got, err := word.Older(w); got != 0 || err != api.ErrForm {
			t.Errorf("%#x: Older is %#x, %d", w, got, err)
		}
	}
	eachWord(func(w uint64) {
		want := api.OK
		if h, may := slowRead(w); !may {
			want = api.ErrForm
		} else if h.Kind != word.Neutral && h.Kind != word.Biased {
			want = api.ErrArg
		}
		if got, err := word.Older(w); err != want || err != api.OK && got != 0 {
			t.Fatalf("%#x: Older is %#x, %d", w, got, err)
		}
	})
}

// P2.3: what is coded is read; so no two headers have one word.
func TestCodedIsRead(t *testing.T) {
	seen := map[uint64]word.Header{}
	eachHeader(func(h word.Header) {
		w, err := word.Code(h)
		if err != api.OK {
			return
		}
		if got, err := word.Read(w); got != h || err != api.OK {
			t.Fatalf("%+v: coded as %#x, read as %+v, %d", h, w, got, err)
		}
		if other, ok := seen[w]; ok {
			t.Fatalf("%+v and %+v: both are coded as %#x", h, other, w)
		}
		seen[w] = h
	})
}

// P2.4: what is read is coded as the same word; so no header has two.
func TestReadIsCoded(t *testing.T) {
	seen := map[word.Header]uint64{}
	eachWord(func(w uint64) {
		h, err := word.Read(w)
		if err != api.OK {
			return
		}
		if !word.May(h) {
			t.Fatalf("%#x: read as %+v, which may not be", w, h)
		}
		if got, err := word.Code(h); got != w || err != api.OK {
			t.Fatalf("%#x: read as %+v, coded as %#x, %d", w, h, got, err)
		}
		if other, ok := seen[h]; ok && other != w {
			t.Fatalf("%#x and %#x: both are read as %+v", w, other, h)
		}
		seen[h] = w
	})
}
