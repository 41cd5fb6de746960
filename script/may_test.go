package script_test

import (
	"math"
	"slices"
	"testing"

	"futtock/api"
	"futtock/core"
	"futtock/script"
)

// extremes are numbers that are no kind, no object, no thread, and of no Deflate.
var extremes = []int{-1, -2, -8, -255, -256, 61, 101, 255, 256, 257, 1 << 16, 1 << 31, 1 << 32, 1<<32 + 1, -1 << 32, math.MaxInt, math.MinInt, math.MinInt + 1}

// mayIs tells if May, Lay and the document do not tell the same of a script, and layer
// 21's New not that, if it tells an error.
func mayIs(t *testing.T, s script.Script, want api.Errno) {
	t.Helper()
	if _, err := core.New(s.Config, s.Progs); err != api.OK && err != want {
		t.Fatalf("New is %d, not %d, of %s", err, want, brief(s))
	}
	if err := wrong(s); err != want {
		t.Fatalf("%d is not %d, of %s", err, want, brief(s))
	}
	if want == api.OK {
		lays(t, s, laid(s))
		return
	}
	refuses(t, s, want)
}

// P24.1: scripts that may be: of one thread and of several.
func TestMay(t *testing.T) {
	mayIs(t, whole(t), api.OK)
	for threads := 1; threads <= 8; threads++ {
		mayIs(t, empty(threads), api.OK)
		mayIs(t, with(empty(threads), func(s *script.Script) {
			for i := range s.Progs {
				s.Progs[i] = prog(t, "enter 0; try 1; exit 2; wait 3; wait 4 9; notify 5; all 6; hash 7; holds 0; interrupt 0")
			}
			for i := range threads {
				s.Turns = append(s.Turns, turns(t, "d t1 t100 t255 0")...)
				s.Turns = append(s.Turns, script.Turn{Kind: 1, N: i})
			}
		}), api.OK)
	}
}

// P24.1: ErrArg of a configuration's number that is less than its least one or more
// than its greatest one, OK at these.
func TestMayConfig(t *testing.T) {
	base := with(empty(1), func(s *script.Script) { s.Config.Objects = 1 })
	for _, x := range numbersOf() {
		for _, n := range append([]int{x.least - 1, x.least, x.least + 1, x.most - 1, x.most, x.most + 1, x.least + 256, x.most + 256}, extremes...) {
			s := with(base, func(s *script.Script) {
				if *x.of(&s.Config) = n; x.name == "Rebias" {
					s.Config.Revoke = 100
				}
				s.Progs = make([][]api.Op, max(0, min(s.Config.Threads, 9)))
			})
			want := api.OK
			if n < x.least || n > x.most {
				want = api.ErrArg
			}
			mayIs(t, s, want)
		}
	}
	for _, x := range [][2]int{{2, 1}, {100, 99}, {100, 1}, {3, 2}} {
		mayIs(t, with(base, func(s *script.Script) { s.Config.Rebias, s.Config.Revoke = x[0], x[1] }), api.ErrArg)
	}
	mayIs(t, script.Script{}, api.ErrArg)
	mayIs(t, script.Script{Progs: make([][]api.Op, 1)}, api.ErrArg)
	for _, seed := range []uint64{0, 1, 1 << 32, 1 << 63, math.MaxUint64} {
		mayIs(t, with(base, func(s *script.Script) { s.Config.Seed = seed }), api.OK)
	}
}

// P24.1: ErrArg, if there are fewer or more programs than threads.
func TestMayPrograms(t *testing.T) {
	for threads := 1; threads <= 8; threads++ {
		for many := range 12 {
			want := api.OK
			if many != threads {
				want = api.ErrArg
			}
			mayIs(t, script.Script{Config: least(threads, 1), Progs: make([][]api.Op, many)}, want)
		}
		mayIs(t, script.Script{Config: least(threads, 1), Turns: turns(t, "0")}, api.ErrArg)
	}
}

// P24.1: ErrForm of a program of 65 operations, OK of one of 64, whichever it is.
func TestMayLongPrograms(t *testing.T) {
	for thread := range 3 {
		for many, want := range map[int]api.Errno{0: api.OK, 1: api.OK, 63: api.OK, 64: api.OK, 65: api.ErrForm, 66: api.ErrForm, 86: api.ErrForm, 256: api.ErrForm} {
			mayIs(t, with(empty(3), func(s *script.Script) {
				s.Progs[thread] = slices.Repeat([]api.Op{{Kind: 7, Obj: 2}}, many)
			}), want)
		}
	}
}

// noOps are operations that may not be where there are three threads and two objects;
// the last ones may be where there are more.
func noOps() []api.Op {
	var l []api.Op
	for _, n := range append([]int{0, 10, 15, 16}, extremes...) {
		l = append(l, api.Op{Kind: n}, api.Op{Kind: n, Obj: 1})
	}
	for kind := 1; kind <= 9; kind++ {
		for _, n := range append([]int{8, 9, 15, 16}, extremes...) {
			l = append(l, api.Op{Kind: kind, Obj: n})
			if kind != 4 || n < 0 || n > 1000000 {
				l = append(l, api.Op{Kind: kind, Arg: n})
			}
		}
	}
	l = append(l, api.Op{Kind: 4, Arg: 1000001}, api.Op{Kind: 9, Obj: 1}, api.Op{Kind: 9, Obj: 1, Arg: 2})
	for kind := 1; kind <= 8; kind++ {
		l = append(l, api.Op{Kind: kind, Obj: 2}, api.Op{Kind: kind, Obj: 7})
	}
	return append(l, api.Op{Kind: 9, Arg: 3}, api.Op{Kind: 9, Arg: 7})
}

// P24.1: ErrForm of an operation that may not be, wherever it stands.
func TestMayNoOperations(t *testing.T) {
	base := with(empty(3), func(s *script.Script) { s.Config.Objects = 2 })
	for _, o := range noOps() {
		for thread := range 3 {
			for _, at := range []int{0, 1, 63} {
				mayIs(t, with(base, func(s *script.Script) {
					s.Progs[thread] = append(slices.Repeat([]api.Op{{Kind: 4, Arg: 65535}}, at), o)
				}), api.ErrForm)
			}
		}
	}
}

// P24.1: ErrArg of an Arg above 65535, OK of 65535, wherever it stands; above 1000000
// it is ErrForm.
func TestMayLongWaits(t *testing.T) {
	for arg, want := range map[int]api.Errno{
		0: api.OK, 65534: api.OK, 65535: api.OK, 65536: api.ErrArg, 65537: api.ErrArg, 1 << 17: api.ErrArg, 999999: api.ErrArg, 1000000: api.ErrArg,
		1000001: api.ErrForm, 1 << 31: api.ErrForm, 1 << 32: api.ErrForm, math.MaxInt: api.ErrForm, -1: api.ErrForm,
	} {
		for thread := range 3 {
			for _, at := range []int{0, 1, 63} {
				mayIs(t, with(empty(3), func(s *script.Script) {
					s.Progs[thread] = append(slices.Repeat([]api.Op{{Kind: 1}}, at), api.Op{Kind: 4, Arg: arg})
				}), want)
			}
		}
	}
}

// noTurns are turns that are none of so many threads.
func noTurns(threads int) []script.Turn {
	l := []script.Turn{{}, {Kind: 4}, {Kind: 4, N: 1}, {Kind: 2}, {Kind: 2, N: -1}, {Kind: 2, N: 256}, {Kind: 3, N: 1}, {Kind: 3, N: 255}}
	for _, n := range extremes {
		l = append(l, script.Turn{Kind: n}, script.Turn{Kind: n, N: 1}, script.Turn{Kind: 1, N: n}, script.Turn{Kind: 3, N: n})
		if n < 1 || n > 255 {
			l = append(l, script.Turn{Kind: 2, N: n})
		}
	}
	for n := threads; n <= 17; n++ {
		l = append(l, script.Turn{Kind: 1, N: n})
	}
	return append(l, script.Turn{Kind: 1, N: 100}, script.Turn{Kind: 1, N: 101})
}

// P24.1: ErrArg of a turn that is none, wherever it stands.
func TestMayNoTurns(t *testing.T) {
	for threads := 1; threads <= 8; threads++ {
		for _, x := range noTurns(threads) {
			for _, many := range []int{1, 3, 20} {
				for _, at := range []int{0, many / 2, many - 1} {
					mayIs(t, with(empty(threads), func(s *script.Script) {
						s.Turns = slices.Repeat(turns(t, "t7"), many)
						s.Turns[at] = x
					}), api.ErrArg)
				}
			}
		}
	}
}

// P24.1: ErrMany of 4097 turns, OK of 4096, of each kind.
func TestMayManyTurns(t *testing.T) {
	for _, text := range []string{"0", "1", "t1", "t255", "d"} {
		for many, want := range map[int]api.Errno{4095: api.OK, 4096: api.OK, 4097: api.ErrMany, 4098: api.ErrMany, 8192: api.ErrMany, 65536: api.ErrMany} {
			mayIs(t, with(empty(2), func(s *script.Script) { s.Turns = slices.Repeat(turns(t, text), many) }), want)
		}
	}
}

// P24.1: where several are wrong, the error that is named first: each pair of them, and
// all.
func TestMayWhichIsTold(t *testing.T) {
	base := with(empty(2), func(s *script.Script) { s.Turns = turns(t, "0 1") })
	faults := []struct {
		turn func(s *script.Script)
		want api.Errno
	}{
		{func(s *script.Script) { s.Config.Count = 61 }, api.ErrArg},
		{func(s *script.Script) { s.Progs = append(s.Progs, nil) }, api.ErrArg},
		{func(s *script.Script) { s.Progs[1] = append(s.Progs[1], api.Op{Kind: 1, Obj: 8}) }, api.ErrForm},
		{func(s *script.Script) { s.Progs[1] = append(s.Progs[1], make([]api.Op, 65)...) }, api.ErrForm},
		{func(s *script.Script) { s.Progs[0] = append(s.Progs[0], api.Op{Kind: 4, Arg: 65536}) }, api.ErrArg},
		{func(s *script.Script) { s.Turns = append(s.Turns, slices.Repeat(turns(t, "d"), 4095)...) }, api.ErrMany},
		{func(s *script.Script) { s.Turns[0] = script.Turn{Kind: 1, N: 2} }, api.ErrArg},
	}
	for i, first := range faults {
		for _, other := range faults[i:] {
			mayIs(t, with(base, func(s *script.Script) {
				first.turn(s)
				other.turn(s)
			}), first.want)
		}
		mayIs(t, with(base, func(s *script.Script) {
			for _, x := range faults[i:] {
				x.turn(s)
			}
		}), first.want)
	}
}
