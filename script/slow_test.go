package script_test

import (
	"fmt"
	"slices"

	"futtock/api"
	"futtock/script"
)

// number is one of a configuration's, and from where to where it may be.
type number struct {
	name        string
	of          func(c *api.Config) *int
	least, most int
}

// numbersOf are a configuration's numbers in the order of their bytes; Bias, which
// stands ahead of the last two, and Seed are looked at apart.
func numbersOf() []number {
	return []number{
		{"Threads", func(c *api.Config) *int { return &c.Threads }, 1, 8},
		{"Objects", func(c *api.Config) *int { return &c.Objects }, 1, 8},
		{"Classes", func(c *api.Config) *int { return &c.Classes }, 1, 4},
		{"Slots", func(c *api.Config) *int { return &c.Slots }, 1, 16},
		{"Spin", func(c *api.Config) *int { return &c.Spin }, 0, 8},
		{"Count", func(c *api.Config) *int { return &c.Count }, 1, 60},
		{"Rebias", func(c *api.Config) *int { return &c.Rebias }, 1, 100},
		{"Revoke", func(c *api.Config) *int { return &c.Revoke }, 1, 100},
	}
}

// isConfig tells whether a configuration may be, by what the document says.
func isConfig(c api.Config) bool {
	for _, x := range numbersOf() {
		if n := *x.of(&c); n < x.least || n > x.most {
			return false
		}
	}
	return c.Rebias <= c.Revoke
}

// isOp tells whether an operation may be for so many threads and objects.
func isOp(o api.Op, threads, objects int) bool {
	switch o.Kind {
	case 1, 2, 3, 5, 6, 7, 8:
		return o.Arg == 0 && 0 <= o.Obj && o.Obj < objects
	case 4:
		return 0 <= o.Arg && o.Arg <= 1000000 && 0 <= o.Obj && o.Obj < objects
	case 9:
		return 0 <= o.Arg && o.Arg < threads && o.Obj == 0
	}
	return false
}

// wrong is the error of a script, by what the document says: the first one of a list of
// all that are wrong.
func wrong(s script.Script) api.Errno {
	var mayNot, tooLong bool
	for _, l := range s.Progs {
		mayNot = mayNot || len(l) > 64
		for _, o := range l {
			mayNot = mayNot || !isOp(o, s.Config.Threads, s.Config.Objects)
			tooLong = tooLong || o.Arg > 65535
		}
	}
	isNone := func(x script.Turn) bool {
		ends := [4][2]int{{1, 0}, {0, s.Config.Threads - 1}, {1, 255}, {0, 0}}
		if x.Kind < 1 || x.Kind > 3 {
			return true
		}
		return x.N < ends[x.Kind][0] || x.N > ends[x.Kind][1]
	}
	for _, x := range []struct {
		is  bool
		err api.Errno
	}{
		{!isConfig(s.Config) || len(s.Progs) != s.Config.Threads, api.ErrArg},
		{mayNot, api.ErrForm},
		{tooLong, api.ErrArg},
		{len(s.Turns) > 4096, api.ErrMany},
		{slices.ContainsFunc(s.Turns, isNone), api.ErrArg},
	} {
		if x.is {
			return x.err
		}
	}
	return api.OK
}

// laid are the bytes of a script that may be.
func laid(s script.Script) []byte {
	c := s.Config
	b := []byte{mark, byte(c.Threads), byte(c.Objects), byte(c.Classes), byte(c.Slots), byte(c.Spin), byte(c.Count), c.Bias, byte(c.Rebias), byte(c.Revoke)}
	for seed, i := c.Seed, 0; i < 8; i++ {
		b = append(b, byte(seed%256))
		seed /= 256
	}
	for _, l := range s.Progs {
		b = append(b, byte(3*len(l)))
		for _, o := range l {
			b = append(b, byte(o.Kind+16*o.Obj), byte(o.Arg%256), byte(o.Arg/256))
		}
	}
	for _, x := range s.Turns {
		switch x.Kind {
		case 1:
			b = append(b, byte(x.N))
		case 2:
			b = append(b, tick, byte(x.N))
		case 3:
			b = append(b, deflate)
		}
	}
	return b
}

// parsed is the script of bytes, by what the document says: parts are cut off where
// they end, and looked at whole.
func parsed(b []byte) (script.Script, api.Errno) {
	switch {
	case len(b) == 0:
		return script.Script{}, api.ErrEnd
	case b[0] != mark:
		return script.Script{}, api.ErrForm
	case len(b) < head:
		return script.Script{}, api.ErrEnd
	}
	var s script.Script
	place := 1
	for _, x := range numbersOf() {
		if x.name == "Rebias" {
			s.Config.Bias = b[place]
			place++
		}
		*x.of(&s.Config) = int(b[place])
		place++
	}
	for i := 7; i >= 0; i-- {
		s.Config.Seed = s.Config.Seed*256 + uint64(b[place+i])
	}
	if !isConfig(s.Config) {
		return script.Script{}, api.ErrArg
	}
	rest := b[head:]
	for range s.Config.Threads {
		if len(rest) == 0 || len(rest) < 1+int(rest[0]) {
			return script.Script{}, api.ErrEnd
		}
		many := int(rest[0])
		l, err := unpacked(rest[1:1+many], s.Config)
		if err != api.OK {
			return script.Script{}, err
		}
		s.Progs = append(s.Progs, l)
		rest = rest[1+many:]
	}
	l, err := parsedTurns(rest, s.Config.Threads)
	if err != api.OK {
		return script.Script{}, err
	}
	s.Turns = l
	return s, api.OK
}

// unpacked is the program of bytes.
func unpacked(b []byte, c api.Config) ([]api.Op, api.Errno) {
	switch {
	case len(b)%3 != 0:
		return nil, api.ErrEnd
	case len(b) > 192:
		return nil, api.ErrMany
	}
	var l []api.Op
	mayBe := true
	for part := range slices.Chunk(b, 3) {
		o := api.Op{Kind: int(part[0]) % 16, Obj: int(part[0]) / 16, Arg: int(part[1]) + 256*int(part[2])}
		if !isOp(o, 8, 8) {
			return nil, api.ErrArg
		}
		mayBe = mayBe && isOp(o, c.Threads, c.Objects)
		l = append(l, o)
	}
	if !mayBe {
		return nil, api.ErrForm
	}
	return l, api.OK
}

// parsedTurns are the turns of bytes.
func parsedTurns(b []byte, threads int) ([]script.Turn, api.Errno) {
	var l []script.Turn
	for i := 0; i < len(b); i++ {
		switch n := int(b[i]); {
		case len(l) == 4096:
			return nil, api.ErrMany
		case n < threads:
			l = append(l, script.Turn{Kind: 1, N: n})
		case n < 8:
			return nil, api.ErrArg
		case n == deflate:
			l = append(l, script.Turn{Kind: 3})
		case n != tick:
			return nil, api.ErrForm
		case i == len(b)-1:
			return nil, api.ErrEnd
		case b[i+1] == 0:
			return nil, api.ErrArg
		default:
			i++
			l = append(l, script.Turn{Kind: 2, N: int(b[i])})
		}
	}
	return l, api.OK
}

// brief is a script as a text, cut if it is long.
func brief(s script.Script) string {
	return cut(fmt.Sprintf("%+v, %d programs %v, %d turns %v", s.Config, len(s.Progs), s.Progs, len(s.Turns), s.Turns))
}

// few are bytes as a text, cut if it is long.
func few(b []byte) string {
	return cut(fmt.Sprintf("%d: %v", len(b), b))
}

// cut is the beginning of a text.
func cut(text string) string {
	if len(text) > 600 {
		return text[:600] + ".."
	}
	return text
}
