package op_test

import (
	"fmt"

	"futtock/api"
	"futtock/op"
)

// Example does what README.md shows.
func Example() {
	prog, err := op.Parse("enter 0; wait 0 5; exit 0")
	fmt.Println(prog, int(err))
	ok := op.May(prog[1], 2, 1)
	fmt.Println(ok)
	ok = op.May(api.Op{Kind: op.Interrupt, Arg: 2}, 2, 1)
	fmt.Println(ok)
	b, err := op.Pack(prog)
	fmt.Println(b, int(err))
	back, err := op.Unpack(b[3:])
	fmt.Println(back, int(err))
	text, err := op.Text(back)
	fmt.Printf("%q %d\n", text, int(err))
	_, err = op.Parse("wait 0 0")
	fmt.Println(int(err))
	_, err = op.Parse("wait 8")
	fmt.Println(int(err))
	_, err = op.Unpack(b[1:])
	fmt.Println(int(err))
	depth := op.Depth(back, 0)
	fmt.Println(depth)
	ok = op.Even(prog)
	fmt.Println(ok)
	ok = op.Nests(back)
	fmt.Println(ok)
	// Output:
	// [{1 0 0} {4 0 5} {3 0 0}] 0
	// true
	// false
	// [1 0 0 4 5 0 3 0 0] 0
	// [{4 0 5} {3 0 0}] 0
	// "wait 0 5; exit 0" 0
	// 3
	// 1
	// 4
	// -1
	// true
	// false
}
