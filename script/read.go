package script

import (
	"slices"

	"futtock/api"
	"futtock/core"
	"futtock/op"
)

// reader has the bytes that are left to be taken.
type reader struct {
	left []byte
}

// taker takes the next byte, and tells whether there is one.
type taker func() (byte, bool)

// take takes the next byte.
func (r *reader) take() (byte, bool) {
	if len(r.left) == 0 {
		return 0, false
	}
	next := r.left[0]
	r.left = r.left[1:]
	return next, true
}

// several takes so many bytes, and tells whether there are as many.
func (take taker) several(many int) ([]byte, bool) {
	b := make([]byte, 0, many)
	for range many {
		next, ok := take()
		if !ok {
			return nil, false
		}
		b = append(b, next)
	}
	return b, true
}

// scriptOf is the script of all bytes.
func scriptOf(take taker) (Script, api.Errno) {
	first, ok := take()
	switch {
	case !ok:
		return Script{}, api.ErrEnd
	case first != mark:
		return Script{}, api.ErrForm
	}
	c, err := configOf(take)
	if err != api.OK {
		return Script{}, err
	}
	progs, err := progsOf(take, c)
	if err != api.OK {
		return Script{}, err
	}
	turns, err := turnsOf(take, c.Threads)
	if err != api.OK {
		return Script{}, err
	}
	return Script{Config: c, Progs: progs, Turns: turns}, api.OK
}

// configOf is the configuration of the next bytes.
func configOf(take taker) (api.Config, api.Errno) {
	b, ok := take.several(numbers + seedSize)
	if !ok {
		return api.Config{}, api.ErrEnd
	}
	c := api.Config{
		Threads: int(b[0]),
		Objects: int(b[1]),
		Classes: int(b[2]),
		Slots:   int(b[3]),
		Spin:    int(b[4]),
		Count:   int(b[5]),
		Bias:    b[6],
		Rebias:  int(b[7]),
		Revoke:  int(b[8]),
	}
	for i, part := range b[numbers:] {
		c.Seed |= uint64(part) << (byteBits * i)
	}
	if !core.May(c) {
		return api.Config{}, api.ErrArg
	}
	return c, api.OK
}

// progsOf are the programs of the next bytes, one of each thread.
func progsOf(take taker, c api.Config) ([][]api.Op, api.Errno) {
	mayNot := func(o api.Op) bool { return !op.May(o, c.Threads, c.Objects) }
	var progs [][]api.Op
	for range c.Threads {
		prog, err := progOf(take)
		if err != api.OK {
			return nil, err
		}
		if slices.ContainsFunc(prog, mayNot) {
			return nil, api.ErrForm
		}
		progs = append(progs, prog)
	}
	return progs, api.OK
}

// progOf is the program of the next bytes, whatever threads and objects there are.
func progOf(take taker) ([]api.Op, api.Errno) {
	size, ok := take()
	if !ok {
		return nil, api.ErrEnd
	}
	b, ok := take.several(int(size))
	if !ok {
		return nil, api.ErrEnd
	}
	return op.Unpack(b)
}

// turnsOf are the turns of all bytes that are left.
func turnsOf(take taker, threads int) ([]Turn, api.Errno) {
	var turns []Turn
	for {
		first, ok := take()
		if !ok {
			return turns, api.OK
		}
		if len(turns) == api.MaxSteps {
			return nil, api.ErrMany
		}
		x, err := turnOf(first, take)
		if err != api.OK {
			return nil, err
		}
		if !isTurn(x, threads) {
			return nil, api.ErrArg
		}
		turns = append(turns, x)
	}
}

// turnOf is what begins with a byte that is taken already: a turn, if its number may be.
func turnOf(first byte, take taker) (Turn, api.Errno) {
	switch {
	case first < api.MaxThreads:
		return Turn{Kind: Pick, N: int(first)}, api.OK
	case first == tickMark:
		n, ok := take()
		if !ok {
			return Turn{}, api.ErrEnd
		}
		return Turn{Kind: Tick, N: int(n)}, api.OK
	case first == deflateMark:
		return Turn{Kind: Deflate}, api.OK
	}
	return Turn{}, api.ErrForm
}
