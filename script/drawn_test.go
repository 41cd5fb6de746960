package script_test

import (
	"slices"
	"testing"

	"futtock/api"
	"futtock/script"
)

// numbers are of no pattern, and the same ones each time.
type numbers uint64

func (n *numbers) below(end int) int {
	*n = *n*6364136223846793005 + 1442695040888963407
	return int(uint64(*n) >> 33 % uint64(end))
}

// one is one of some numbers.
func (n *numbers) one(l ...int) int { return l[n.below(len(l))] }

// within is a number from a least one to a greatest one, these more often than others.
func (n *numbers) within(least, most int) int {
	return n.one(least, most, least+n.below(most-least+1), least+n.below(most-least+1))
}

// config is a drawn one.
func (n *numbers) config() api.Config {
	c := api.Config{Bias: uint8(n.below(256)), Seed: uint64(n.below(1<<31))<<33 ^ uint64(n.below(1<<31))<<11 ^ uint64(n.below(1<<31))}
	for _, x := range numbersOf() {
		*x.of(&c) = n.within(x.least, x.most)
	}
	c.Rebias, c.Revoke = min(c.Rebias, c.Revoke), max(c.Rebias, c.Revoke)
	return c
}

// op is a drawn operation.
func (n *numbers) op(c api.Config) api.Op {
	o := api.Op{Kind: 1 + n.below(9)}
	switch o.Kind {
	case 9:
		o.Arg = n.below(c.Threads)
	case 4:
		o.Obj, o.Arg = n.below(c.Objects), n.one(0, n.within(0, 65535))
	default:
		o.Obj = n.below(c.Objects)
	}
	return o
}

// turn is a drawn turn.
func (n *numbers) turn(c api.Config) script.Turn {
	switch kind := n.one(1, 1, 1, 2, 3); kind {
	case 1:
		return script.Turn{Kind: 1, N: n.below(c.Threads)}
	case 2:
		return script.Turn{Kind: 2, N: n.within(1, 255)}
	default:
		return script.Turn{Kind: 3}
	}
}

// script is a drawn one that may be.
func (n *numbers) script() script.Script {
	s := script.Script{Config: n.config()}
	for range s.Config.Threads {
		var l []api.Op
		for range n.one(0, 1, 3, n.below(65), 64) {
			l = append(l, n.op(s.Config))
		}
		s.Progs = append(s.Progs, l)
	}
	for range n.one(0, 1, 5, n.below(50), n.below(4097)) {
		s.Turns = append(s.Turns, n.turn(s.Config))
	}
	return s
}

// short is a drawn one that may be, of few bytes.
func (n *numbers) short() script.Script {
	s := script.Script{Config: n.config()}
	for range s.Config.Threads {
		var l []api.Op
		for range n.below(4) {
			l = append(l, n.op(s.Config))
		}
		s.Progs = append(s.Progs, l)
	}
	for range n.below(12) {
		s.Turns = append(s.Turns, n.turn(s.Config))
	}
	return s
}

// spoilt is a copy of a script in which one number is another one.
func (n *numbers) spoilt(s script.Script) script.Script {
	s = copied(s)
	other := n.one(-1, 0, 1, 2, 7, 8, 9, 60, 61, 100, 255, 256, 65535, 65536, 1000000, 1000001, 1<<32+1)
	prog := s.Progs[n.below(len(s.Progs))]
	switch kind := n.below(6); {
	case kind == 0:
		*numbersOf()[n.below(8)].of(&s.Config) = other
	case kind == 1 && len(prog) > 0:
		prog[n.below(len(prog))].Kind = other
	case kind == 2 && len(prog) > 0:
		prog[n.below(len(prog))].Obj = other
	case kind == 3 && len(prog) > 0:
		prog[n.below(len(prog))].Arg = other
	case kind == 4 && len(s.Turns) > 0:
		s.Turns[n.below(len(s.Turns))].Kind = other
	case len(s.Turns) > 0:
		s.Turns[n.below(len(s.Turns))].N = other
	}
	return s
}

// told are how often an error was told.
type told map[api.Errno]int

// has tells if one of some errors was told too seldom for a test to be worth much.
func (l told) has(t *testing.T, least int, those ...api.Errno) {
	t.Helper()
	for _, err := range those {
		if l[err] < least {
			t.Errorf("%d was told %d times: %v", err, l[err], l)
		}
	}
}

// ofBytes tells if bytes are neither read, and then laid as the same bytes, nor refused
// with the error that the document says, and the zero script.
func (l told) ofBytes(t *testing.T, b []byte) {
	t.Helper()
	_, err := parsed(b)
	readIs(t, b, err)
	l[err]++
}

// P24.1, P24.3: drawn scripts: what is laid is read as the same script.
func TestDrawnScripts(t *testing.T) {
	n := numbers(24)
	for range 2000 {
		s := n.script()
		mayIs(t, s, api.OK)
		sameIs(t, s, copied(s), true)
	}
}

// P24.1, P24.4: drawn scripts with another number: such as may not be are laid as
// nothing, with May's error.
func TestDrawnFaults(t *testing.T) {
	n := numbers(1)
	l := told{}
	for range 20000 {
		s := n.short()
		other := n.spoilt(s)
		if n.below(3) == 0 {
			other = n.spoilt(other)
		}
		err := wrong(other)
		mayIs(t, other, err)
		sameIs(t, s, other, like(s, other))
		l[err]++
	}
	l.has(t, 1000, api.OK, api.ErrArg, api.ErrForm)
}

// P24.3, P24.4: bytes of drawn scripts that are cut at any place, or have one more at
// their end.
func TestDrawnCuts(t *testing.T) {
	n := numbers(2)
	l := told{}
	for range 300 {
		b := laid(n.short())
		for i := range b {
			l.ofBytes(t, b[:i])
		}
		for more := range 256 {
			l.ofBytes(t, append(b, byte(more)))
		}
	}
	l.has(t, 1000, api.OK, api.ErrEnd, api.ErrForm, api.ErrArg)
}

// P24.3, P24.4: bytes of which one is another one: each place, and each byte there.
func TestOneByteTurned(t *testing.T) {
	l := told{}
	long := laid(with(empty(2), func(s *script.Script) {
		s.Progs[0] = slices.Repeat(prog(t, "wait 7 772"), 64)
		s.Turns = turns(t, "0 d 1 t3 d d")
	}))
	for _, whole := range [][]byte{wholeBytes(), laid(empty(8)), long} {
		for i := range whole {
			for x := range 256 {
				b := slices.Clone(whole)
				b[i] = byte(x)
				l.ofBytes(t, b)
			}
		}
	}
	l.has(t, 1000, api.OK, api.ErrEnd, api.ErrForm, api.ErrArg)
	l.has(t, 1, api.ErrMany)
}

// P24.3, P24.4: bytes of drawn scripts in which some are other ones, stand twice, or
// lack.
func TestDrawnTurned(t *testing.T) {
	n := numbers(3)
	l := told{}
	for range 40000 {
		b := laid(n.short())
		for range n.one(1, 1, 2, 5) {
			i := n.below(len(b))
			switch n.below(4) {
			case 0:
				b = slices.Delete(b, i, i+1)
			case 1:
				b = slices.Insert(b, i, b[i])
			default:
				b[i] = byte(n.one(n.below(256), n.below(12), n.below(12), 3*n.below(86), 100, 101))
			}
		}
		l.ofBytes(t, b)
	}
	l.has(t, 1000, api.OK, api.ErrEnd, api.ErrForm, api.ErrArg)
}

// P24.3, P24.4: bytes of no pattern, alone, behind a 77, behind a configuration, and
// behind programs.
func TestDrawnBytes(t *testing.T) {
	n := numbers(4)
	l := told{}
	for range 40000 {
		s := n.short()
		ahead := [][]byte{nil, {77}, laid(s)[:head], laid(script.Script{Config: s.Config, Progs: s.Progs})}[n.below(4)]
		b := slices.Clone(ahead)
		for range n.below(40) {
			b = append(b, byte(n.one(n.below(256), n.below(8), n.below(8), 0, 0, 100, 101)))
		}
		l.ofBytes(t, b)
	}
	l.has(t, 1000, api.OK, api.ErrEnd, api.ErrForm, api.ErrArg)
}
