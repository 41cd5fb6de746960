package run_test

import (
	"slices"
	"testing"

	"futtock/api"
	"futtock/op"
	"futtock/run"
	"futtock/script"
)

// numbers are of no pattern, and the same ones each time.
type numbers uint64

func (n *numbers) below(end int) int {
	*n = *n*6364136223846793005 + 1442695040888963407
	return int(uint64(*n) >> 33 % uint64(end))
}

// one is one of some numbers.
func (n *numbers) one(l ...int) int { return l[n.below(len(l))] }

// config is a drawn configuration; few objects and slots, so that threads meet.
func (n *numbers) config() api.Config {
	rebias := n.one(1, 1, 2, 3, 100)
	return api.Config{
		Threads: n.one(1, 2, 2, 3, 3, 4, 8),
		Objects: n.one(1, 1, 2, 3, 8),
		Classes: n.one(1, 1, 2, 4),
		Slots:   n.one(1, 1, 2, 3, 16),
		Spin:    n.one(0, 0, 1, 3, 8),
		Count:   n.one(1, 2, 3, 60),
		Bias:    uint8(n.one(0, 1, 2, 5, 255, 255)),
		Rebias:  rebias,
		Revoke:  min(100, rebias*n.one(1, 2, 5, 100)),
		Seed:    uint64(n.below(1 << 20)),
	}
}

// prog is a drawn program of any operations.
func (n *numbers) prog(c api.Config, most int) []api.Op {
	var l []api.Op
	for range n.below(most + 1) {
		o := api.Op{Kind: n.one(1, 1, 1, 1, 2, 2, 3, 3, 3, 3, 4, 4, 4, 5, 5, 6, 7, 8, 9), Obj: n.below(c.Objects)}
		switch o.Kind {
		case op.Wait:
			o.Arg = n.one(0, 1, 1, 2, 5, 30)
		case op.Interrupt:
			o.Obj, o.Arg = 0, n.below(c.Threads)
		}
		l = append(l, o)
	}
	return l
}

// script is a drawn one that may be, of at most so many turns; a thread is often picked
// some times behind each other.
func (n *numbers) script(most int) script.Script {
	s := script.Script{Config: n.config()}
	for range s.Config.Threads {
		s.Progs = append(s.Progs, n.prog(s.Config, n.one(3, 8, 20)))
	}
	for want := n.below(most + 1); len(s.Turns) < want; {
		switch n.below(20) {
		case 0:
			s.Turns = append(s.Turns, script.Turn{Kind: tick, N: n.one(1, 1, 2, 30, 255)})
		case 1:
			s.Turns = append(s.Turns, script.Turn{Kind: deflate})
		default:
			x := script.Turn{Kind: pick, N: n.below(s.Config.Threads)}
			s.Turns = append(s.Turns, slices.Repeat([]script.Turn{x}, min(n.one(1, 1, 2, 5, 15), want-len(s.Turns)))...)
		}
	}
	return s
}

// laid are a script's bytes.
func laid(t testing.TB, s script.Script) []byte {
	t.Helper()
	b, err := script.Lay(s)
	if err != api.OK {
		t.Fatalf("Lay is %d of %+v", err, s)
	}
	return b
}

// P25.1, P25.2: drawn scripts, played, come to what their turns do one by one.
func TestDrawnScripts(t *testing.T) {
	n := numbers(25)
	var seen run.Summary
	inflating, errors := 0, map[api.Errno]int{}
	for range 1500 {
		m := holds(t, n.script(n.one(10, 100, 600)))
		add(&seen, run.Sum(m))
		_, zero := summary(m)
		inflating += zero
		for thread := range m.Config().Threads {
			for _, x := range run.Answers(m, thread) {
				errors[x.Err]++
			}
		}
	}
	if min(seen.Ended, seen.Asleep, seen.Neutral, seen.Biased, seen.Thin, seen.Fat, seen.Used, seen.Rounds) < 100 || inflating < 20 {
		t.Errorf("it is not much: %+v, %d inflations", seen, inflating)
	}
	for _, err := range []api.Errno{api.OK, api.ErrState, api.ErrOver, api.ErrOut, api.ErrIntr, api.ErrTime, api.ErrBusy} {
		if errors[err] < 10 {
			t.Errorf("%d was told %d times", err, errors[err])
		}
	}
}

// add adds what a summary has of each kind.
func add(all *run.Summary, s run.Summary) {
	all.Ended += s.Ended
	all.Asleep += s.Asleep
	all.Neutral += s.Neutral
	all.Biased += s.Biased
	all.Thin += s.Thin
	all.Fat += s.Fat
	all.Used += s.Used
	all.Rounds += s.Rounds
}

// P25.4: the log of a script's first turns, however many, is the beginning of its log;
// and so are their answers the first ones.
func TestDrawnBeginnings(t *testing.T) {
	n := numbers(4)
	for range 60 {
		s := n.script(120)
		begins(t, s, 1)
	}
	for range 10 {
		begins(t, n.script(3000), 97)
	}
	most := n.script(0)
	for i := range 4096 {
		most.Turns = append(most.Turns, script.Turn{Kind: pick, N: i % most.Config.Threads})
	}
	begins(t, most, 512)
}

// begins tells if the log of a script's first turns is not the beginning of its log, or
// their answers are not its first ones, for every so manieth beginning.
func begins(t *testing.T, s script.Script, each int) {
	t.Helper()
	m := played(t, s)
	whole := m.Log()
	for many := 0; many <= len(s.Turns); many += each {
		first := s
		first.Turns = s.Turns[:many]
		was := played(t, first)
		l := was.Log()
		if len(l) > len(whole) || !slices.Equal(l, whole[:len(l)]) {
			t.Fatalf("the log of %d turns of %d is no beginning: %v", many, len(s.Turns), l)
		}
		for thread := range s.Progs {
			x, y := run.Answers(was, thread), run.Answers(m, thread)
			if len(x) > len(y) || !slices.Equal(x, y[:len(x)]) {
				t.Fatalf("the answers of %d turns are no beginning: %v of %v", many, x, y)
			}
		}
	}
}

// P25.5: the same script, played twice, and once from its bytes, is told the same, with
// a Finish behind it, too.
func TestDrawnTwice(t *testing.T) {
	n := numbers(5)
	for range 400 {
		s := n.script(n.one(20, 300, 1000))
		first, second := played(t, s), played(t, copied(s))
		third, err := run.Bytes(laid(t, s))
		if err != api.OK {
			t.Fatalf("Bytes is %d of %+v", err, s)
		}
		alike(t, first, second)
		alike(t, first, third)
		rounds := n.one(1, 30, 500)
		if a, b, c := run.Finish(first, rounds), run.Finish(second, rounds), run.Finish(third, rounds); a != b || a != c {
			t.Fatalf("Finish is %v, %v, %v", a, b, c)
		}
		alike(t, first, second)
		alike(t, first, third)
	}
}

// spoilt is a copy of a script in which one number is another one.
func (n *numbers) spoilt(s script.Script) script.Script {
	s = copied(s)
	other := n.one(-1, 0, 1, 2, 7, 8, 9, 60, 61, 100, 101, 255, 256, 65535, 65536, 1000001)
	prog := s.Progs[n.below(len(s.Progs))]
	c := &s.Config
	switch kind := n.below(6); {
	case kind == 0:
		part := []*int{&c.Threads, &c.Objects, &c.Classes, &c.Slots, &c.Spin, &c.Count, &c.Rebias, &c.Revoke}[n.below(8)]
		*part = other
	case kind == 1 && len(prog) > 0:
		prog[n.below(len(prog))].Kind = other
	case kind == 2 && len(prog) > 0:
		prog[n.below(len(prog))].Obj = other
	case kind == 3 && len(prog) > 0:
		prog[n.below(len(prog))].Arg = other
	case kind == 4 && len(s.Turns) > 0:
		s.Turns[n.below(len(s.Turns))].Kind = other
	case len(s.Turns) > 0:
		s.Turns[n.below(len(s.Turns))].N = other
	}
	return s
}

// P25.6: drawn scripts with other numbers: such as may not be are refused with layer
// 24's error, and without a machine.
func TestDrawnFaults(t *testing.T) {
	n := numbers(6)
	told := map[api.Errno]int{}
	for range 4000 {
		s := n.script(20)
		s = n.spoilt(s)
		if n.below(3) == 0 {
			s = n.spoilt(s)
		}
		err := script.May(s)
		told[err]++
		if err != api.OK {
			refuses(t, s, err)
			continue
		}
		holds(t, s)
	}
	if min(told[api.OK], told[api.ErrArg], told[api.ErrForm]) < 200 {
		t.Errorf("it is not much: %v", told)
	}
}

// P25.5, P25.6: bytes of drawn scripts, of which some are other ones, that are cut, or
// have more at their end: they are played as the script that layer 24 reads, or refused
// with its error.
func TestDrawnBytes(t *testing.T) {
	n := numbers(7)
	told := map[api.Errno]int{}
	for range 4000 {
		b := laid(t, n.script(20))
		for range n.one(0, 1, 1, 2) {
			switch i := n.below(len(b)); n.below(5) {
			case 0:
				b = append(b[:i:i], b[i+1:]...)
			case 1:
				b = append(b, byte(n.one(0, 1, 7, 8, 100, 101, 102)))
			case 2:
				b = b[:max(i, 1)]
			default:
				b[i] = byte(n.one(n.below(256), n.below(12), 100, 101))
			}
		}
		s, err := script.Read(b)
		told[err]++
		if err != api.OK {
			refusesBytes(t, b, err)
			continue
		}
		m, err := run.Bytes(b)
		if err != api.OK {
			t.Fatalf("Bytes(%v) is %d", b, err)
		}
		alike(t, m, holds(t, s))
	}
	if min(told[api.OK], told[api.ErrArg], told[api.ErrForm], told[api.ErrEnd]) < 100 {
		t.Errorf("it is not much: %v", told)
	}
}

// P25.3: Finish of drawn scripts does so many rounds as the machine's own calls would.
func TestDrawnFinish(t *testing.T) {
	n := numbers(8)
	told := map[bool]int{}
	for range 400 {
		ended, _ := finishes(t, n.script(n.one(0, 50, 300)), n.one(-1, 0, 1, n.below(30), n.below(200), 1000))
		told[ended]++
	}
	if told[true] < 50 || told[false] < 50 {
		t.Errorf("it is not much: %v", told)
	}
}
