package run_test

import (
	"math"
	"slices"
	"testing"

	"futtock/api"
	"futtock/core"
	"futtock/run"
	"futtock/script"
)

// refuses tells if Play does not tell an error, and no machine; May tells the same one.
func refuses(t testing.TB, s script.Script, want api.Errno) {
	t.Helper()
	was := copied(s)
	if err := script.May(s); err != want {
		t.Fatalf("May is %d, not %d, of %+v", err, want, s)
	}
	for range 2 {
		if m, err := run.Play(s); m != nil || err != want {
			t.Fatalf("Play is %v, %d, not %d, of %+v", m, err, want, s)
		}
	}
	if !script.Same(s, was) {
		t.Fatalf("Play turned %+v", was)
	}
}

// refusesBytes tells if Bytes does not tell an error, and no machine; Read tells the
// same one.
func refusesBytes(t testing.TB, b []byte, want api.Errno) {
	t.Helper()
	was := slices.Clone(b)
	if _, err := script.Read(b); err != want {
		t.Fatalf("Read(%v) is %d, not %d", b, err, want)
	}
	for range 2 {
		if m, err := run.Bytes(b); m != nil || err != want {
			t.Fatalf("Bytes(%v) is %v, %d, not %d", b, m, err, want)
		}
	}
	if !slices.Equal(b, was) {
		t.Fatalf("Bytes turned %v", was)
	}
}

// sound is a script that may be, with some of each part.
func sound(t testing.TB) script.Script {
	return scriptOf(t, with(greatest(), func(c *api.Config) { c.Threads = 2 }), "0*9 t4 d 1 1 0", "enter 0; wait 1 5; exit 0", "hash 7; interrupt 1")
}

// faults are ways to turn a script that may be, each with the error that it is.
func faults() map[string]struct {
	err  api.Errno
	turn func(s *script.Script)
} {
	type fault = struct {
		err  api.Errno
		turn func(s *script.Script)
	}
	return map[string]fault{
		"no threads":       {api.ErrArg, func(s *script.Script) { s.Config.Threads = 0 }},
		"9 threads":        {api.ErrArg, func(s *script.Script) { s.Config.Threads = 9 }},
		"no objects":       {api.ErrArg, func(s *script.Script) { s.Config.Objects = 0 }},
		"5 classes":        {api.ErrArg, func(s *script.Script) { s.Config.Classes = 5 }},
		"17 slots":         {api.ErrArg, func(s *script.Script) { s.Config.Slots = 17 }},
		"a Spin below 0":   {api.ErrArg, func(s *script.Script) { s.Config.Spin = -1 }},
		"a Count of 61":    {api.ErrArg, func(s *script.Script) { s.Config.Count = 61 }},
		"no Rebias":        {api.ErrArg, func(s *script.Script) { s.Config.Rebias = 0 }},
		"a Revoke less":    {api.ErrArg, func(s *script.Script) { s.Config.Revoke = s.Config.Rebias - 1 }},
		"a program less":   {api.ErrArg, func(s *script.Script) { s.Progs = s.Progs[:1] }},
		"a program more":   {api.ErrArg, func(s *script.Script) { s.Progs = append(s.Progs, nil) }},
		"no programs":      {api.ErrArg, func(s *script.Script) { s.Progs = nil }},
		"65 operations":    {api.ErrForm, func(s *script.Script) { s.Progs[1] = slices.Repeat([]api.Op{{Kind: 1}}, 65) }},
		"no kind":          {api.ErrForm, func(s *script.Script) { s.Progs[0][0].Kind = 0 }},
		"no such object":   {api.ErrForm, func(s *script.Script) { s.Progs[0][0].Obj = 8 }},
		"no such thread":   {api.ErrForm, func(s *script.Script) { s.Progs[1][1].Arg = 2 }},
		"an Arg of 65536":  {api.ErrArg, func(s *script.Script) { s.Progs[0][1].Arg = 65536 }},
		"4097 turns":       {api.ErrMany, func(s *script.Script) { s.Turns = slices.Repeat([]script.Turn{{Kind: pick}}, 4097) }},
		"a Pick of nobody": {api.ErrArg, func(s *script.Script) { s.Turns[0].N = 2 }},
		"a Pick of -1":     {api.ErrArg, func(s *script.Script) { s.Turns[len(s.Turns)-1].N = -1 }},
		"a Tick of 0":      {api.ErrArg, func(s *script.Script) { s.Turns[9].N = 0 }},
		"a Tick of 256":    {api.ErrArg, func(s *script.Script) { s.Turns[9].N = 256 }},
		"a Deflate of 1":   {api.ErrArg, func(s *script.Script) { s.Turns[10].N = 1 }},
		"a turn of no one": {api.ErrArg, func(s *script.Script) { s.Turns[3].Kind = 4 }},
	}
}

// P25.1, P25.6: scripts of which each part may not be are refused with layer 24's error,
// and without a machine.
func TestPlayRefuses(t *testing.T) {
	holds(t, sound(t))
	for name, x := range faults() {
		s := sound(t)
		x.turn(&s)
		t.Run(name, func(t *testing.T) { refuses(t, s, x.err) })
	}
	refuses(t, script.Script{}, api.ErrArg)
}

// P25.1, P25.6: where several parts may not be, the error is layer 24's first one.
func TestPlayRefusesWithTheFirst(t *testing.T) {
	l := faults()
	for _, x := range []struct {
		err   api.Errno
		names []string
	}{
		{api.ErrArg, []string{"65 operations", "9 threads"}},
		{api.ErrArg, []string{"no kind", "a program more"}},
		{api.ErrForm, []string{"no kind", "an Arg of 65536"}},
		{api.ErrForm, []string{"65 operations", "4097 turns"}},
		{api.ErrForm, []string{"no such thread", "a Tick of 0"}},
		{api.ErrArg, []string{"an Arg of 65536", "4097 turns"}},
		{api.ErrMany, []string{"4097 turns", "a Pick of -1"}},
		{api.ErrMany, []string{"4097 turns", "a turn of no one"}},
	} {
		s := sound(t)
		for _, name := range x.names {
			l[name].turn(&s)
		}
		refuses(t, s, x.err)
	}
}

// P25.1, P25.6: bytes that are none, that are cut at any place, and of which each part
// may not be. Cut behind the programs, between two turns, they are another script.
func TestBytesRefuses(t *testing.T) {
	refusesBytes(t, nil, api.ErrEnd)
	refusesBytes(t, []byte{}, api.ErrEnd)
	refusesBytes(t, []byte{76}, api.ErrForm)
	s := sound(t)
	whole, _ := script.Lay(s)
	begin := 18 + 1 + 9 + 1 + 6
	for i := range whole {
		switch many := i - begin; {
		case i < begin || many == 10:
			refusesBytes(t, whole[:i], api.ErrEnd)
		default:
			short := s
			short.Turns = s.Turns[:many-max(0, min(many-9, 1))]
			m, err := run.Bytes(whole[:i])
			if err != api.OK {
				t.Fatalf("cut to %d: %d", i, err)
			}
			alike(t, m, played(t, short))
		}
	}
	for at, x := range map[int]struct {
		b   byte
		err api.Errno
	}{
		0: {78, api.ErrForm}, 1: {9, api.ErrArg}, 2: {0, api.ErrArg}, 3: {5, api.ErrArg}, 4: {17, api.ErrArg}, 5: {9, api.ErrArg}, 6: {61, api.ErrArg},
		8: {0, api.ErrArg}, 9: {101, api.ErrArg}, 18: {8, api.ErrEnd}, 19: {0x8f, api.ErrArg}, begin - 2: {2, api.ErrForm},
		begin: {8, api.ErrForm}, begin + 1: {99, api.ErrForm}, begin + 2: {7, api.ErrArg}, begin + 10: {0, api.ErrArg}, begin + 11: {102, api.ErrForm},
	} {
		b := slices.Clone(whole)
		b[at] = x.b
		refusesBytes(t, b, x.err)
	}
	b, _ := script.Lay(scriptOf(t, least(1), "0*4096"))
	refusesBytes(t, append(b, 0), api.ErrMany)
}

// P25.3, R5: a nil machine, and one that New did not give, in each call.
func TestNoMachine(t *testing.T) {
	for _, m := range []*core.Machine{nil, {}, new(core.Machine)} {
		for _, thread := range []int{-1, 0, 1, 8, math.MinInt, math.MaxInt} {
			if l := run.Answers(m, thread); len(l) != 0 {
				t.Errorf("answers of %d: %v", thread, l)
			}
			for _, x := range []struct {
				kind int
				want bool
			}{{pick, false}, {tick, true}, {deflate, true}, {0, false}, {4, false}, {-1, false}, {math.MinInt, false}, {math.MaxInt, false}} {
				if run.Turn(m, script.Turn{Kind: x.kind, N: thread}) != x.want {
					t.Errorf("a turn of the kind %d, %d, is not %v", x.kind, thread, x.want)
				}
			}
		}
		if got := run.Sum(m); got != (run.Summary{}) {
			t.Errorf("the summary is %+v", got)
		}
		for _, rounds := range []int{0, 1, -1, 50, 100000, 100001, math.MinInt, math.MaxInt} {
			if run.Finish(m, rounds) {
				t.Errorf("it ended in %d rounds", rounds)
			}
		}
	}
}

// R3, R4: a machine hangs on no list that was handed in.
func TestNothingIsKept(t *testing.T) {
	s := sound(t)
	want := played(t, s)
	m := played(t, s)
	for i := range s.Progs {
		clear(s.Progs[i])
		_ = append(s.Progs[i][:0], api.Op{Kind: 9})
	}
	clear(s.Progs)
	clear(s.Turns)
	alike(t, m, want)
	run.Finish(m, 50)
	run.Finish(want, 50)
	alike(t, m, want)
	b, _ := script.Lay(sound(t))
	m, _ = run.Bytes(b)
	clear(b)
	run.Finish(m, 50)
	alike(t, m, want)
}

// R4: two machines of one script are not one.
func TestMachinesAreApart(t *testing.T) {
	s := sound(t)
	m, other := played(t, s), played(t, s)
	was := tells(other)
	run.Finish(m, 1000)
	if tells(other) != was || tells(m) == was {
		t.Error("two machines are one")
	}
}

// R4: answers are the caller's: what is written into them, or behind them, no later
// answer has.
func TestAnswersAreTheCallers(t *testing.T) {
	s := scriptOf(t, least(1), "", "enter 0; hash 0; exit 0; holds 0")
	m := played(t, s)
	run.Finish(m, 100)
	want := run.Answers(m, 0)
	first, second := run.Answers(m, 0), run.Answers(m, 0)
	for i := range first {
		first[i] = run.Answer{Number: 99, Value: 99, Err: 99}
	}
	_ = append(first, run.Answer{Number: 98})
	_ = append(first[:1], run.Answer{Number: 97})
	if !slices.Equal(second, want) || !slices.Equal(run.Answers(m, 0), want) || len(want) != 4 {
		t.Errorf("answers are shared: %v, %v", second, want)
	}
}
