package op

import (
	"futtock/api"
)

const (
	// size is how many bytes an operation has.
	size = 3
	// kindBits is how many bits of its first byte are its kind.
	kindBits = 4
	// byteBits is how many bits of its Arg are in the byte behind that one.
	byteBits = 8
	// mostPacked is the greatest Arg that fits.
	mostPacked = 1<<(2*byteBits) - 1
)

// Pack are a program's bytes.
func Pack(prog []api.Op) ([]byte, api.Errno) {
	if err := wrong(prog); err != api.OK {
		return nil, err
	}
	b := make([]byte, 0, size*len(prog))
	for _, o := range prog {
		if o.Arg > mostPacked {
			return nil, api.ErrArg
		}
		b = append(b, byte(o.Kind|o.Obj<<kindBits), byte(o.Arg), byte(o.Arg>>byteBits))
	}
	return b, api.OK
}

// Unpack is the program of bytes.
func Unpack(b []byte) ([]api.Op, api.Errno) {
	if len(b)%size != 0 {
		return nil, api.ErrEnd
	}
	if len(b)/size > api.MaxOps {
		return nil, api.ErrMany
	}
	prog := make([]api.Op, 0, len(b)/size)
	for ; len(b) > 0; b = b[size:] {
		o := unpacked(b)
		if !mayBe(o) {
			return nil, api.ErrArg
		}
		prog = append(prog, o)
	}
	return prog, api.OK
}

// unpacked is the operation of the first bytes.
func unpacked(b []byte) api.Op {
	return api.Op{
		Kind: int(b[0] & (1<<kindBits - 1)),
		Obj:  int(b[0] >> kindBits),
		Arg:  int(b[1]) | int(b[2])<<byteBits,
	}
}
