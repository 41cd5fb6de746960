package script_test

import (
	"math"
	"slices"
	"testing"

	"futtock/api"
	"futtock/script"
)

// R4: what was laid hangs on no script any more, and no script on it.
func TestBytesAreTheCallers(t *testing.T) {
	s := whole(t)
	first, _ := script.Lay(s)
	other, _ := script.Lay(s)
	clear(first)
	_ = append(first, 99)
	if !slices.Equal(other, wholeBytes()) {
		t.Error("bytes of two answers are shared")
	}
	spoil(s)
	if !slices.Equal(other, wholeBytes()) {
		t.Error("bytes hang on the script that was handed in")
	}
	lays(t, whole(t), wholeBytes())
}

// R4: what was read hangs on no bytes any more, and one script on no other one; nor do
// its lists hang on each other.
func TestScriptsAreTheCallers(t *testing.T) {
	b := wholeBytes()
	first, _ := script.Read(b)
	other, _ := script.Read(b)
	clear(b)
	if !like(first, whole(t)) {
		t.Error("a script hangs on the bytes that were handed in")
	}
	for i, l := range first.Progs {
		_ = append(l, api.Op{Kind: 9, Arg: 7})
		if !like(first, whole(t)) {
			t.Fatalf("what is behind the program %d is another list's", i)
		}
	}
	spoil(first)
	if !like(other, whole(t)) {
		t.Error("lists of two answers are shared")
	}
	reads(t, wholeBytes(), whole(t))
}

// R4: nothing is written behind the ends of lists that are handed in.
func TestNothingIsWrittenBehindAnEnd(t *testing.T) {
	room := whole(t)
	was := copied(room)
	for many := range len(room.Turns) {
		s := room
		s.Progs = [][]api.Op{room.Progs[0][:min(many, 5)], room.Progs[1][:min(many, 6)]}
		s.Turns = room.Turns[:many]
		script.May(s)
		script.Lay(s)
		script.Same(s, room)
		s.Progs = room.Progs[:1]
		script.May(s)
		script.Lay(s)
		script.Same(s, room)
		if !like(room, was) {
			t.Fatal("something is written behind an end")
		}
	}
	b := wholeBytes()
	for many := range len(b) + 1 {
		script.Read(b[:many])
		if !slices.Equal(b, wholeBytes()) {
			t.Fatal("something is written behind an end")
		}
	}
}

// R3: later answers hang on what is handed in then.
func TestNothingIsKept(t *testing.T) {
	s := whole(t)
	lays(t, s, wholeBytes())
	s.Progs[0][0].Obj = 3
	refuses(t, s, api.ErrForm)
	s.Progs[0][0].Obj = 0
	lays(t, s, wholeBytes())
	s.Turns[6].N = 2
	refuses(t, s, api.ErrArg)
	s.Turns[6].N = 1
	lays(t, s, wholeBytes())
}

// R1: no call panics, whatever it is handed.
func TestAllCallsEnd(t *testing.T) {
	l := []int{0, 1, 2, 8, 9, 77, 255, 256, 1 << 32, -1, math.MaxInt, math.MinInt}
	for _, x := range l {
		for _, y := range l {
			for _, c := range []api.Config{
				{}, least(1, 1), least(8, 8), {Threads: x, Objects: y, Classes: x, Slots: y, Spin: x, Count: y, Rebias: x, Revoke: y},
				{Threads: 1, Objects: 1, Classes: x, Slots: y, Count: 1, Rebias: y, Revoke: x},
			} {
				for many := range 10 {
					s := script.Script{Config: c, Turns: []script.Turn{{Kind: x, N: y}, {Kind: y, N: x}}}
					for range many {
						s.Progs = append(s.Progs, []api.Op{{Kind: x, Obj: y, Arg: x}, {Kind: y, Obj: x, Arg: y}})
					}
					mayIs(t, s, wrong(s))
					s.Progs = make([][]api.Op, many)
					mayIs(t, s, wrong(s))
				}
			}
		}
	}
	for _, size := range []int{1, 17, 18, 19, 300, 10000, 1 << 20} {
		for x := range 256 {
			b := slices.Repeat([]byte{byte(x)}, size)
			script.Read(b)
			b[0] = 77
			script.Read(b)
		}
	}
}
