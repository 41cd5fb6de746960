package script_test

import (
	"fmt"

	"futtock/api"
	"futtock/op"
	"futtock/script"
)

// Example does what README.md shows.
func Example() {
	prog, _ := op.Parse("enter 0; exit 0")
	s := script.Script{
		Config: api.Config{Threads: 2, Objects: 1, Classes: 1, Slots: 1, Count: 3, Rebias: 1, Revoke: 1, Seed: 258},
		Progs:  [][]api.Op{prog, nil},
		Turns:  []script.Turn{{Kind: script.Pick, N: 1}, {Kind: script.Tick, N: 5}, {Kind: script.Deflate}},
	}
	err := script.May(s)
	fmt.Println(int(err))
	b, err := script.Lay(s)
	fmt.Println(b, int(err))
	back, err := script.Read(b)
	fmt.Println(back.Config.Seed, back.Progs, back.Turns, int(err))
	ok := script.Same(s, back)
	fmt.Println(ok)
	_, err = script.Read(b[:len(b)-2])
	fmt.Println(int(err))
	_, err = script.Read(append(b, 2))
	fmt.Println(int(err))
	_, err = script.Read(append(b, 8))
	fmt.Println(int(err))
	_, err = script.Read(nil)
	fmt.Println(int(err))
	s.Turns[1].N = 256
	b, err = script.Lay(s)
	fmt.Println(b, int(err))
	s.Progs[1] = []api.Op{{Kind: op.Enter, Obj: 1}}
	err = script.May(s)
	fmt.Println(int(err))
	// Output:
	// 0
	// [77 2 1 1 1 0 3 0 1 1 2 1 0 0 0 0 0 0 6 1 0 0 3 0 0 0 1 100 5 101] 0
	// 258 [[{1 0 0} {3 0 0}] []] [{1 1} {2 5} {3 0}] 0
	// true
	// 4
	// 1
	// 3
	// 4
	// [] 1
	// 3
}
