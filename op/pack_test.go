package op_test

import (
	"slices"
	"testing"

	"futtock/api"
	"futtock/op"
)

// packs are operations, and their bytes.
var packs = []struct {
	o api.Op
	b [3]byte
}{
	{api.Op{Kind: enter}, [3]byte{1, 0, 0}},
	{api.Op{Kind: enter, Obj: 7}, [3]byte{0x71, 0, 0}},
	{api.Op{Kind: try, Obj: 1}, [3]byte{0x12, 0, 0}},
	{api.Op{Kind: exit, Obj: 2}, [3]byte{0x23, 0, 0}},
	{api.Op{Kind: wait}, [3]byte{4, 0, 0}},
	{api.Op{Kind: wait, Obj: 3}, [3]byte{0x34, 0, 0}},
	{api.Op{Kind: wait, Obj: 3, Arg: 1}, [3]byte{0x34, 1, 0}},
	{api.Op{Kind: wait, Arg: 255}, [3]byte{4, 255, 0}},
	{api.Op{Kind: wait, Arg: 256}, [3]byte{4, 0, 1}},
	{api.Op{Kind: wait, Arg: 258}, [3]byte{4, 2, 1}},
	{api.Op{Kind: wait, Obj: 7, Arg: 65280}, [3]byte{0x74, 0, 255}},
	{api.Op{Kind: wait, Obj: 7, Arg: 65534}, [3]byte{0x74, 254, 255}},
	{api.Op{Kind: wait, Obj: 7, Arg: 65535}, [3]byte{0x74, 255, 255}},
	{api.Op{Kind: notify, Obj: 4}, [3]byte{0x45, 0, 0}},
	{api.Op{Kind: all, Obj: 5}, [3]byte{0x56, 0, 0}},
	{api.Op{Kind: hash, Obj: 6}, [3]byte{0x67, 0, 0}},
	{api.Op{Kind: holds, Obj: 7}, [3]byte{0x78, 0, 0}},
	{api.Op{Kind: interrupt}, [3]byte{9, 0, 0}},
	{api.Op{Kind: interrupt, Arg: 1}, [3]byte{9, 1, 0}},
	{api.Op{Kind: interrupt, Arg: 7}, [3]byte{9, 7, 0}},
}

// P16.2, P16.4, P16.5: each kind as three bytes, and in a program.
func TestPack(t *testing.T) {
	var prog []api.Op
	var b []byte
	for _, p := range packs {
		packIs(t, []api.Op{p.o}, p.b[:], api.OK)
		unpackIs(t, p.b[:], []api.Op{p.o}, api.OK)
		prog = append(prog, p.o)
		b = append(b, p.b[:]...)
		packIs(t, prog, b, api.OK)
		unpackIs(t, b, prog, api.OK)
	}
}

// P16.2: the empty program and no bytes.
func TestPackOfNone(t *testing.T) {
	for _, prog := range [][]api.Op{nil, {}} {
		packIs(t, prog, nil, api.OK)
	}
	for _, b := range [][]byte{nil, {}} {
		unpackIs(t, b, nil, api.OK)
	}
}

// P16.2: 64 operations and 65, and many more.
func TestPacksOfMany(t *testing.T) {
	for _, p := range packs {
		for _, many := range []int{2, 63, 64} {
			packIs(t, slices.Repeat([]api.Op{p.o}, many), slices.Repeat(p.b[:], many), api.OK)
			unpackIs(t, slices.Repeat(p.b[:], many), slices.Repeat([]api.Op{p.o}, many), api.OK)
		}
		for _, many := range []int{65, 66, 128, 1000} {
			packIs(t, slices.Repeat([]api.Op{p.o}, many), nil, api.ErrMany)
			unpackIs(t, slices.Repeat(p.b[:], many), nil, api.ErrMany)
		}
	}
}

// P16.2: an operation that may not be has no bytes, wherever it stands; nor has one
// that may be, but whose Arg does not fit. More than 64 are told of ahead of it.
func TestPackOfWhatMayNotBe(t *testing.T) {
	l := wrongOps()
	for _, ticks := range []int{65536, 65537, 65791, 65792, 131071, 1 << 17, 999999, 1000000} {
		o := api.Op{Kind: wait, Obj: 3, Arg: ticks}
		if !op.May(o, 8, 8) {
			t.Fatalf("May(%v) is false", o)
		}
		l = append(l, o)
	}
	for _, o := range l {
		for _, many := range []int{1, 2, 3, 63, 64, 65, 66} {
			for _, at := range []int{0, many / 2, min(many, 64) - 1, many - 1} {
				prog := slices.Repeat([]api.Op{{Kind: wait, Obj: 1, Arg: 65535}}, many)
				prog[at] = o
				want := api.ErrArg
				if many > 64 {
					want = api.ErrMany
				}
				packIs(t, prog, nil, want)
			}
		}
	}
}

// P16.2, P16.5: all three bytes that are one operation or none: of each first byte, and
// of few others.
func TestUnpackOfAll(t *testing.T) {
	right := 0
	for first := range 256 {
		for _, lower := range []int{0, 1, 2, 7, 8, 9, 127, 128, 254, 255} {
			for _, upper := range []int{0, 1, 15, 16, 127, 128, 254, 255} {
				b := []byte{byte(first), byte(lower), byte(upper)}
				kind, obj, arg := first&15, first>>4, lower|upper<<8
				var want []api.Op
				wantErr := api.ErrArg
				if o := (api.Op{Kind: kind, Obj: obj, Arg: arg}); isOneOfAll(o) {
					want, wantErr = []api.Op{o}, api.OK
					right++
				}
				unpackIs(t, b, want, wantErr)
				if wantErr == api.OK {
					packIs(t, want, b, api.OK)
				}
			}
		}
	}
	// Seven kinds without an Arg, Waits of all Args, and Interrupts of 0, 1, 2 and 7.
	if want := 7*8 + 8*80 + 4; right != want {
		t.Errorf("%d are right, not %d", right, want)
	}
}

// P16.2, P16.4: each Arg that fits comes back.
func TestEachArgIsUnpacked(t *testing.T) {
	for arg := range 1 << 16 {
		o := api.Op{Kind: wait, Obj: arg % 8, Arg: arg}
		b, err := op.Pack([]api.Op{o})
		if err != api.OK || len(b) != 3 || int(b[1])+256*int(b[2]) != arg {
			t.Fatalf("Pack of %v is %v, %d", o, b, err)
		}
		if prog, err := op.Unpack(b); err != api.OK || len(prog) != 1 || prog[0] != o {
			t.Fatalf("Unpack(%v) is %v, %d", b, prog, err)
		}
	}
}

// P16.2: bytes that are no multiple of 3, of right ones and of wrong ones, and of more
// than 64 operations.
func TestUnpackLacksBytes(t *testing.T) {
	for _, many := range []int{0, 1, 2, 62, 63, 64, 65, 66, 1000} {
		for _, three := range [][]byte{{1, 0, 0}, {0, 0, 0}, {255, 255, 255}, {0x74, 255, 255}} {
			whole := slices.Repeat(three, many)
			unpackIs(t, append(whole, three[0]), nil, api.ErrEnd)
			unpackIs(t, append(whole, three[0], three[1]), nil, api.ErrEnd)
		}
	}
	for _, many := range []int{1, 2, 4, 5, 7, 8, 191, 193, 194, 196} {
		unpackIs(t, make([]byte, many), nil, api.ErrEnd)
	}
}

// P16.2: which error of bytes is told: that some lack ahead of all, and that there are
// too many ahead of one that may not be, wherever that stands.
func TestWhichErrorOfBytesIsTold(t *testing.T) {
	for _, wrong := range [][]byte{{0, 0, 0}, {10, 0, 0}, {0x81, 0, 0}, {1, 1, 0}, {9, 8, 0}, {0x19, 0, 0}, {1, 0, 1}, {9, 0, 1}, {15, 0, 0}, {0xf4, 0, 0}} {
		for _, many := range []int{1, 2, 63, 64, 65, 66} {
			for _, at := range []int{0, many / 2, min(many, 64) - 1, many - 1} {
				b := slices.Repeat([]byte{4, 255, 255}, many)
				copy(b[3*at:], wrong)
				want := api.ErrArg
				if many > 64 {
					want = api.ErrMany
				}
				unpackIs(t, b, nil, want)
				unpackIs(t, append(b, 4), nil, api.ErrEnd)
				unpackIs(t, append(b, 4, 0), nil, api.ErrEnd)
			}
		}
	}
}

// P16.4, P16.5: programs of no pattern are packed and unpacked.
func TestPackedAndUnpacked(t *testing.T) {
	n := numbers(6)
	for many := range 65 {
		for range 40 {
			prog := n.prog(many, 65535)
			b := bytesOf(prog)
			packIs(t, prog, b, api.OK)
			unpackIs(t, b, prog, api.OK)
		}
	}
}

// P16.2, P16.5: bytes of no pattern: what is unpacked is packed as the same ones.
func TestBytesOfNoPattern(t *testing.T) {
	n := numbers(7)
	right := 0
	for range 100000 {
		b := make([]byte, n.below(14))
		for i := range b {
			switch {
			case i%3 == 0:
				b[i] = byte(1 + n.below(10) + 16*n.below(9))
			case n.below(6) == 0:
				b[i] = byte(n.below(256))
			}
		}
		want, wantErr := unpacked(b)
		unpackIs(t, b, want, wantErr)
		if wantErr == api.OK {
			packIs(t, want, b, api.OK)
			right++
		}
	}
	if right < 1000 {
		t.Errorf("just %d are right", right)
	}
}

// P16.4: what is packed and what is written are one program.
func TestPackedAsWritten(t *testing.T) {
	n := numbers(8)
	for range 2000 {
		prog := n.prog(n.below(65), 65535)
		b, packErr := op.Pack(prog)
		s, textErr := op.Text(prog)
		unpacked, _ := op.Unpack(b)
		read, _ := op.Parse(s)
		if packErr != api.OK || textErr != api.OK || !slices.Equal(unpacked, read) || !slices.Equal(read, prog) {
			t.Fatalf("%v is unpacked as %v, read as %v", prog, unpacked, read)
		}
	}
}

// P16.2: what Pack and Unpack answered is the caller's.
func TestBytesAreTheCallers(t *testing.T) {
	b := []byte{0x11, 0, 0, 0x14, 5, 0}
	prog, _ := op.Unpack(b)
	packed, _ := op.Pack(prog)
	for i := range b {
		b[i] = 0
	}
	want := []api.Op{{Kind: enter, Obj: 1}, {Kind: wait, Obj: 1, Arg: 5}}
	if !slices.Equal(prog, want) {
		t.Errorf("behind a change of the bytes the program is %v", prog)
	}
	prog[0] = api.Op{Kind: 50}
	if !slices.Equal(packed, []byte{0x11, 0, 0, 0x14, 5, 0}) {
		t.Errorf("behind a change of the program the bytes are %v", packed)
	}
}
