package script_test

import (
	"slices"
	"testing"

	"futtock/api"
	"futtock/script"
)

// readIs tells if Read and the document do not tell the same error of bytes; such as
// are read are laid as they stand.
func readIs(t *testing.T, b []byte, want api.Errno) {
	t.Helper()
	s, err := parsed(b)
	if err != want {
		t.Fatalf("%d is not %d, of %s", err, want, few(b))
	}
	if want == api.OK {
		reads(t, b, s)
		return
	}
	refusesBytes(t, b, want)
}

// P24.2: the document's example, and a first byte that is another one, alone and ahead
// of what would be read.
func TestReadFirst(t *testing.T) {
	for _, b := range [][]byte{nil, {}, make([]byte, 0, 10)} {
		readIs(t, b, api.ErrEnd)
	}
	readIs(t, []byte{77}, api.ErrEnd)
	for first := range 256 {
		want := api.ErrForm
		if first == 77 {
			want = api.OK
		}
		b := wholeBytes()
		b[0] = byte(first)
		readIs(t, b, want)
		if first != 77 {
			readIs(t, b[:1], api.ErrForm)
			readIs(t, b[:5], api.ErrForm)
			b[1] = 0
			readIs(t, b, api.ErrForm)
		}
	}
}

// P24.2: bytes that end: in the configuration, in the Seed, at a program's length, inside
// a program, behind a Tick's byte; between turns nothing is missing.
func TestReadEnds(t *testing.T) {
	b := wholeBytes()
	turnsAt := head + 16 + 19
	insideTick := []int{turnsAt + 2, turnsAt + 5, turnsAt + 8}
	for n := range b {
		want := api.ErrEnd
		if n >= turnsAt && !slices.Contains(insideTick, n) {
			want = api.OK
		}
		readIs(t, b[:n], want)
	}
	readIs(t, b, api.OK)
}

// P24.2: each byte of a configuration, at all its values; the other numbers are ordinary.
func TestReadConfig(t *testing.T) {
	ends := map[int][2]int{1: {1, 8}, 2: {1, 8}, 3: {1, 4}, 4: {1, 16}, 5: {0, 8}, 6: {1, 60}, 7: {0, 255}, 8: {1, 30}, 9: {19, 100}}
	for place, x := range ends {
		for n := range 256 {
			b := wholeBytes()[:head]
			b[place] = byte(n)
			want := api.OK
			if n < x[0] || n > x[1] {
				want = api.ErrArg
			}
			readIs(t, append(b, make([]byte, b[1])...), want)
		}
	}
	for place := 10; place < head; place++ {
		for n := range 256 {
			b := wholeBytes()
			b[place] = byte(n)
			readIs(t, b, api.OK)
		}
	}
}

// P24.2: a configuration that may not be is told of as soon as it is whole, ahead of all
// that is behind it, and no sooner.
func TestReadConfigThatMayNot(t *testing.T) {
	for _, place := range []int{1, 2, 3, 4, 6, 8, 9} {
		b := wholeBytes()
		b[place] = 0
		for n := 1; n < head; n++ {
			readIs(t, b[:n], api.ErrEnd)
		}
		for n := head; n <= len(b); n++ {
			readIs(t, b[:n], api.ErrArg)
		}
		b[head], b[head+1] = 255, 255
		readIs(t, b, api.ErrArg)
	}
}

// P24.2: a program's length byte, at all its values, of each thread, with as many bytes
// behind it and with one less.
func TestReadLengths(t *testing.T) {
	for thread := range 3 {
		for n := range 256 {
			b := slices.Concat(laid(empty(3))[:head+thread], []byte{byte(n)}, slices.Repeat([]byte{0x54, 200, 255}, 86)[:n])
			if n > 0 {
				readIs(t, b[:len(b)-1], api.ErrEnd)
			}
			want := api.OK
			switch {
			case n%3 != 0:
				want = api.ErrEnd
			case n > 192:
				want = api.ErrMany
			}
			readIs(t, append(b, make([]byte, 2-thread)...), want)
			if want == api.OK && thread < 2 {
				readIs(t, b, api.ErrEnd)
			}
		}
	}
}

// P24.2: layer 16's ErrArg of operations that can be nowhere, ErrForm of such as may be
// not here, OK of the others: each first byte, with few others, wherever it stands.
func TestReadOperations(t *testing.T) {
	base := with(empty(3), func(s *script.Script) { s.Config.Objects = 2 })
	many := map[api.Errno]int{}
	for first := range 256 {
		for _, arg := range []int{0, 1, 2, 3, 7, 8, 255, 256, 65535} {
			o := api.Op{Kind: first % 16, Obj: first / 16, Arg: arg}
			want := api.OK
			switch {
			case !isOp(o, 8, 8):
				want = api.ErrArg
			case !isOp(o, 3, 2):
				want = api.ErrForm
			}
			many[want]++
			three := []byte{byte(first), byte(arg), byte(arg >> 8)}
			for thread := range 3 {
				for _, at := range []int{0, 1, 63} {
					b := slices.Concat(laid(base)[:head+thread], []byte{byte(3*at + 3)}, slices.Repeat([]byte{1, 0, 0}, at), three, make([]byte, 2-thread))
					readIs(t, b, want)
				}
			}
		}
	}
	// Seven kinds without an Arg, Waits of nine Args, and Interrupts of 0, 1 and 2 are
	// right; of six more objects, and of the threads 3 and 7, they are not here.
	if many[api.OK] != 7*2+9*2+3 || many[api.ErrForm] != 7*6+9*6+2 {
		t.Errorf("so many are told: %v", many)
	}
}

// P24.2: of a program whose bytes are none layer 16's error is told ahead of ErrForm,
// wherever both are; of two programs that of the first one.
func TestReadWhichProgramIsTold(t *testing.T) {
	b := laid(empty(2))[:head]
	b[2] = 2
	here, nowhere := []byte{0x21, 0, 0}, []byte{0, 0, 0}
	readIs(t, slices.Concat(b, []byte{6}, here, nowhere, []byte{0}), api.ErrArg)
	readIs(t, slices.Concat(b, []byte{6}, nowhere, here, []byte{0}), api.ErrArg)
	readIs(t, slices.Concat(b, []byte{7}, here, nowhere, []byte{0, 0}), api.ErrEnd)
	readIs(t, slices.Concat(b, []byte{3}, here, []byte{3}, nowhere), api.ErrForm)
	readIs(t, slices.Concat(b, []byte{3}, nowhere, []byte{3}, here), api.ErrArg)
	readIs(t, slices.Concat(b, []byte{3}, here), api.ErrForm)
	readIs(t, slices.Concat(b, []byte{3}, here[:2]), api.ErrEnd)
	readIs(t, slices.Concat(b, []byte{0, 3}, here), api.ErrForm)
	readIs(t, slices.Concat(b, []byte{195}, slices.Repeat(here, 65)), api.ErrMany)
	readIs(t, slices.Concat(b, []byte{195}, slices.Repeat(here, 64)), api.ErrEnd)
	readIs(t, slices.Concat(b, []byte{3}, here, []byte{0, 8, 99}), api.ErrForm)
	readIs(t, slices.Concat(b, []byte{3}, nowhere, []byte{0, 8, 99}), api.ErrArg)
}

// P24.2: each byte where a turn begins, as the first turn and as a later one.
func TestReadTurns(t *testing.T) {
	for threads := 1; threads <= 8; threads++ {
		for first := range 256 {
			want := api.OK
			switch {
			case first < 8 && first >= threads:
				want = api.ErrArg
			case first == tick:
				want = api.ErrEnd
			case first > 7 && first != deflate:
				want = api.ErrForm
			}
			for _, ahead := range [][]byte{nil, {0}, {tick, 255}, {deflate, tick, 8}} {
				b := slices.Concat(laid(empty(threads)), ahead, []byte{byte(first)})
				readIs(t, b, want)
				if want != api.OK && first != tick {
					readIs(t, append(b, 0, tick), want)
				}
			}
		}
		for n := range 256 {
			want := api.OK
			if n == 0 {
				want = api.ErrArg
			}
			b := append(laid(empty(threads)), tick, byte(n))
			readIs(t, b, want)
			readIs(t, append(b, 0), want)
		}
	}
}

// P24.2: the first turn that is wrong is told.
func TestReadWhichTurnIsTold(t *testing.T) {
	b := laid(empty(2))
	for text, want := range map[string]api.Errno{
		"\x02\x08": api.ErrArg, "\x08\x02": api.ErrForm, "\x64\x00\x08": api.ErrArg, "\x08\x64\x00": api.ErrForm,
		"\x00\x08\x64": api.ErrForm, "\x02\x64": api.ErrArg, "\x65\x64": api.ErrEnd, "\x64\x64\x64": api.ErrEnd, "\x64\x08\xff": api.ErrForm,
	} {
		readIs(t, slices.Concat(b, []byte(text)), want)
	}
}

// P24.2: ErrMany, as the 4097th turn begins, whatever begins it; of 4096 turns the
// error of the one that is wrong.
func TestReadManyTurns(t *testing.T) {
	b := laid(empty(2))
	for _, bytes := range [][]byte{{0}, {1}, {deflate}, {tick, 1}, {tick, 255}} {
		most := slices.Concat(b, slices.Repeat(bytes, 4096))
		readIs(t, most, api.OK)
		readIs(t, most[:len(most)-len(bytes)], api.OK)
		for _, more := range []byte{0, 1, 2, 7, 8, 99, 100, 101, 102, 255} {
			readIs(t, append(most, more), api.ErrMany)
			readIs(t, append(most, more, 0), api.ErrMany)
		}
		readIs(t, append(most, most...), api.ErrMany)
		for end, want := range map[string]api.Errno{"\x02": api.ErrArg, "\x08": api.ErrForm, "\x64": api.ErrEnd, "\x64\x00": api.ErrArg} {
			last := slices.Concat(most[:len(most)-len(bytes)], []byte(end))
			readIs(t, last, want)
			if end != "\x64" {
				readIs(t, append(last, 0, 0), want)
			}
		}
	}
	mixed := slices.Concat(b, slices.Repeat([]byte{0, tick, 100, deflate, 1}, 1024))
	readIs(t, mixed, api.OK)
	readIs(t, append(mixed, 0), api.ErrMany)
	if s, _ := script.Read(mixed); len(s.Turns) != 4096 {
		t.Errorf("there are %d turns", len(s.Turns))
	}
}
