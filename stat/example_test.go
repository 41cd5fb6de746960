package stat_test

import (
	"fmt"

	"futtock/api"
	"futtock/core"
	"futtock/op"
	"futtock/stat"
)

// Example does what README.md shows.
func Example() {
	mine, _ := op.Parse("enter 0; enter 0; wait 0; exit 0; exit 0")
	other, _ := op.Parse("try 0; enter 0; notify 0; hash 0; hash 1; exit 0; exit 0")
	c := api.Config{Threads: 2, Objects: 2, Classes: 1, Slots: 1, Count: 3, Rebias: 1, Revoke: 1}
	m, _ := core.New(c, [][]api.Op{mine, other})
	for range 6 {
		m.Pick(0)
	}
	for range 4 {
		m.Pick(1)
	}
	for m.Pick(0) || m.Pick(1) {
	}
	log := m.Log()
	zero := stat.Of(log, 0)
	fmt.Printf("%+v\n", zero)
	one := stat.Of(log, 1)
	fmt.Printf("%+v\n", one)
	fmt.Println(stat.Total(log) == stat.Add(zero, one))
	spans := stat.Spans(log, 0)
	fmt.Println(spans)
	boxes := stat.Boxes(spans...)
	fmt.Println(boxes)
	thread, span := stat.Longest(log)
	fmt.Println(thread, span)
	boxes = stat.Boxes(1, 3, 3, 0, -8, 65536)
	fmt.Println(boxes)
	thread, span = stat.Longest(nil)
	fmt.Println(thread, span)
	// Output:
	// {Owned:2 Again:1 Refused:1 Free:2 Kept:1 Strange:1 Waits:1 Left:0 Back:1 Woken:1 Hashes:1}
	// {Owned:0 Again:0 Refused:0 Free:0 Kept:0 Strange:0 Waits:0 Left:0 Back:0 Woken:0 Hashes:1}
	// true
	// [3 7 18 3 3]
	// [0 3 1 0 1 0 0 0 0 0 0 0 0 0 0 0]
	// 0 18
	// [1 2 0 0 0 0 0 0 0 0 0 0 0 0 0 1]
	// -1 0
}
