package script

import (
	"futtock/api"
	"futtock/op"
)

const (
	// mark is the first byte of all.
	mark = 77
	// tickMark stands ahead of a Tick's number; deflateMark is a Deflate.
	tickMark    = 100
	deflateMark = 101
	// numbers are how many of a configuration's bytes are a number each; behind them
	// stand those of the Seed.
	numbers  = 9
	seedSize = 8
	byteBits = 8
)

// withConfig are some bytes, and those of a configuration behind them.
func withConfig(b []byte, c api.Config) []byte {
	for _, n := range [numbers]int{c.Threads, c.Objects, c.Classes, c.Slots, c.Spin, c.Count, int(c.Bias), c.Rebias, c.Revoke} {
		b = append(b, byte(n))
	}
	for i := range seedSize {
		b = append(b, byte(c.Seed>>(byteBits*i)))
	}
	return b
}

// withProg are some bytes, and those of a program behind them.
func withProg(b []byte, prog []api.Op) []byte {
	// What has no bytes May has refused: so there is no error.
	packed, _ := op.Pack(prog)
	b = append(b, byte(len(packed)))
	return append(b, packed...)
}

// withTurn are some bytes, and those of a turn behind them.
func withTurn(b []byte, x Turn) []byte {
	switch x.Kind {
	case Tick:
		return append(b, tickMark, byte(x.N))
	case Deflate:
		return append(b, deflateMark)
	}
	return append(b, byte(x.N))
}
