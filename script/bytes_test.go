package script_test

import (
	"math"
	"slices"
	"testing"

	"futtock/api"
	"futtock/script"
)

// whole is a script each of whose numbers is unlike the others, with each kind of
// operation and of turn.
func whole(t testing.TB) script.Script {
	return script.Script{
		Config: api.Config{Threads: 2, Objects: 3, Classes: 4, Slots: 5, Spin: 6, Count: 17, Bias: 0xa8, Rebias: 19, Revoke: 30, Seed: 0xf1e2d3c4b5a69788},
		Progs: progs(t,
			"enter 0; try 1; wait 2 258; wait 0; exit 2",
			"notify 1; all 2; hash 0; holds 1; interrupt 1; interrupt 0"),
		Turns: turns(t, "0 t1 1 t100 d t255 1"),
	}
}

// wholeBytes are its bytes, written out by hand.
func wholeBytes() []byte {
	return []byte{
		77,
		2, 3, 4, 5, 6, 17, 0xa8, 19, 30,
		0x88, 0x97, 0xa6, 0xb5, 0xc4, 0xd3, 0xe2, 0xf1,
		15, 0x01, 0, 0, 0x12, 0, 0, 0x24, 2, 1, 0x04, 0, 0, 0x23, 0, 0,
		18, 0x15, 0, 0, 0x26, 0, 0, 0x07, 0, 0, 0x18, 0, 0, 0x09, 1, 0, 0x09, 0, 0,
		0, 100, 1, 1, 100, 100, 101, 100, 255, 1,
	}
}

// P24.1, P24.2: the kinds of turns are numbered as the document says.
func TestKinds(t *testing.T) {
	if kinds := [3]int{script.Pick, script.Tick, script.Deflate}; kinds != [3]int{1, 2, 3} {
		t.Errorf("the kinds are %v", kinds)
	}
}

// P24.1, P24.2, P24.3: scripts and their bytes, both written out by hand.
func TestBytesByHand(t *testing.T) {
	lays(t, whole(t), wholeBytes())

	one := []byte{77, 1, 8, 1, 1, 0, 1, 0, 1, 1, 0, 0, 0, 0, 0, 0, 0, 0, 0}
	lays(t, empty(1), one)
	three := append([]byte{77, 3, 8, 1, 1, 0, 1, 0, 1, 1}, make([]byte, 8+3)...)
	lays(t, empty(3), three)

	s := with(empty(3), func(s *script.Script) {
		s.Progs[1] = prog(t, "wait 7 65535")
		s.Turns = turns(t, "2 0 1 d d")
	})
	lays(t, s, []byte{77, 3, 8, 1, 1, 0, 1, 0, 1, 1, 0, 0, 0, 0, 0, 0, 0, 0, 0, 3, 0x74, 255, 255, 0, 2, 0, 1, 101, 101})
}

// P24.1, P24.2: each operation that may be has its bytes, alone and among others.
func TestOperations(t *testing.T) {
	for kind := 1; kind <= 8; kind++ {
		for obj := range 8 {
			o := api.Op{Kind: kind, Obj: obj}
			b := []byte{byte(kind + 16*obj), 0, 0}
			layOne(t, o, b)
		}
	}
	for thread := range 8 {
		layOne(t, api.Op{Kind: 9, Arg: thread}, []byte{9, byte(thread), 0})
	}
	for arg, b := range map[int][2]byte{1: {1, 0}, 255: {255, 0}, 256: {0, 1}, 258: {2, 1}, 65280: {0, 255}, 65534: {254, 255}, 65535: {255, 255}} {
		layOne(t, api.Op{Kind: 4, Obj: 5, Arg: arg}, []byte{0x54, b[0], b[1]})
	}
}

// layOne lays scripts in which an operation stands, whose bytes are these.
func layOne(t *testing.T, o api.Op, three []byte) {
	t.Helper()
	for thread := range 8 {
		s := with(empty(8), func(s *script.Script) { s.Progs[thread] = []api.Op{o} })
		b := slices.Concat(laid(empty(8))[:head+thread], []byte{3}, three, make([]byte, 7-thread))
		lays(t, s, b)
		s.Progs[thread] = []api.Op{{Kind: 1}, o, {Kind: 3, Obj: 7}}
		b = slices.Concat(laid(empty(8))[:head+thread], []byte{9, 1, 0, 0}, three, []byte{0x73, 0, 0}, make([]byte, 7-thread))
		lays(t, s, b)
	}
}

// P24.1, P24.2: each turn that may be has its bytes, alone and among others.
func TestTurns(t *testing.T) {
	for threads := 1; threads <= 8; threads++ {
		for thread := range threads {
			layTurn(t, threads, script.Turn{Kind: 1, N: thread}, byte(thread))
		}
		for n := 1; n <= 255; n++ {
			layTurn(t, threads, script.Turn{Kind: 2, N: n}, tick, byte(n))
		}
		layTurn(t, threads, script.Turn{Kind: 3}, deflate)
	}
}

// layTurn lays scripts in which a turn stands, whose bytes are these.
func layTurn(t *testing.T, threads int, x script.Turn, bytes ...byte) {
	t.Helper()
	s := empty(threads)
	b := laid(s)
	s.Turns = []script.Turn{x}
	lays(t, s, slices.Concat(b, bytes))
	s.Turns = []script.Turn{{Kind: 1}, x, x, {Kind: 2, N: 101}, x}
	lays(t, s, slices.Concat(b, []byte{0}, bytes, bytes, []byte{tick, 101}, bytes))
}

// P24.1, P24.2: each number of a configuration has its byte, at its least and its
// greatest value; a Seed has eight, the lowest first.
func TestConfigBytes(t *testing.T) {
	places := map[string]int{"Threads": 1, "Objects": 2, "Classes": 3, "Slots": 4, "Spin": 5, "Count": 6, "Rebias": 8, "Revoke": 9}
	for _, x := range numbersOf() {
		for _, n := range []int{x.least, x.least + 1, x.most - 1, x.most} {
			s := with(empty(1), func(s *script.Script) {
				if *x.of(&s.Config) = n; x.name == "Rebias" {
					s.Config.Revoke = 100
				}
				s.Progs = make([][]api.Op, s.Config.Threads)
			})
			b := laid(empty(s.Config.Threads))
			if b[9] = byte(s.Config.Revoke); x.name != "Threads" {
				b[places[x.name]] = byte(n)
			}
			lays(t, s, b)
			if b[places[x.name]] != byte(n) {
				t.Errorf("%s of %d: %v", x.name, n, b)
			}
		}
	}
	for bias := range 256 {
		b := laid(empty(1))
		b[7] = byte(bias)
		lays(t, with(empty(1), func(s *script.Script) { s.Config.Bias = uint8(bias) }), b)
	}
	for seed, eight := range map[uint64][]byte{
		0: {0, 0, 0, 0, 0, 0, 0, 0}, 1: {1, 0, 0, 0, 0, 0, 0, 0}, 256: {0, 1, 0, 0, 0, 0, 0, 0}, 1 << 63: {0, 0, 0, 0, 0, 0, 0, 128},
		0x0102030405060708: {8, 7, 6, 5, 4, 3, 2, 1}, 0xfedcba9876543210: {0x10, 0x32, 0x54, 0x76, 0x98, 0xba, 0xdc, 0xfe},
		math.MaxUint64: {255, 255, 255, 255, 255, 255, 255, 255},
	} {
		b := laid(empty(1))
		copy(b[10:], eight)
		lays(t, with(empty(1), func(s *script.Script) { s.Config.Seed = seed }), b)
	}
}

// P24.1, P24.2: scripts with as much of all as there may be.
func TestGreatest(t *testing.T) {
	s := script.Script{
		Config: api.Config{Threads: 8, Objects: 8, Classes: 4, Slots: 16, Spin: 8, Count: 60, Bias: 255, Rebias: 100, Revoke: 100, Seed: math.MaxUint64},
		Turns:  slices.Repeat([]script.Turn{{Kind: 2, N: 255}}, 4096),
	}
	b := slices.Concat([]byte{77, 8, 8, 4, 16, 8, 60, 255, 100, 100}, slices.Repeat([]byte{255}, 8))
	for range 8 {
		s.Progs = append(s.Progs, slices.Repeat([]api.Op{{Kind: 4, Obj: 7, Arg: 65535}}, 64))
		b = slices.Concat(b, []byte{192}, slices.Repeat([]byte{0x74, 255, 255}, 64))
	}
	b = slices.Concat(b, slices.Repeat([]byte{tick, 255}, 4096))
	lays(t, s, b)
	if len(b) != 18+8*193+8192 {
		t.Errorf("there are %d bytes", len(b))
	}
}
