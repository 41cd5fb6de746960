package core_test

import (
	"fmt"

	"futtock/api"
	"futtock/core"
	"futtock/op"
)

// Example does what README.md shows.
func Example() {
	mine, _ := op.Parse("enter 0; wait 0 5; exit 0")
	other, _ := op.Parse("enter 0; hash 0; exit 0")
	c := api.Config{Threads: 2, Objects: 1, Classes: 1, Slots: 1, Count: 3, Rebias: 1, Revoke: 1}
	m, err := core.New(c, [][]api.Op{mine, other})
	fmt.Println(int(err), m.Runnable(), m.Header(0), m.Left())
	for range 4 {
		m.Pick(0)
	}
	fmt.Printf("%d %#x %d\n", m.Steps(), m.Header(0), m.Records(0, 0))
	for m.Pick(0) {
	}
	fmt.Println(m.Asleep(0), m.Header(0), m.Ring(0), m.Pairs(), m.Used(), m.Left())
	for m.Pick(1) {
	}
	fmt.Println(m.Ended(1), m.Runnable())
	m.Deflate()
	fmt.Println(m.Rounds(), m.Left())
	m.Tick(5)
	fmt.Println(m.Now(), m.Runnable())
	for m.Pick(0) {
	}
	m.Deflate()
	fmt.Printf("%v %#x %d\n", m.Ended(0), m.Header(0), m.Left())
	log := m.Log()
	waited := log[len(log)-4]
	fmt.Println(len(log), waited.Thread, waited.Number, int(waited.Err), m.Broken(), m.Most())
	// Output:
	// 0 [0 1] 1 1
	// 4 0x1000000 1
	// true 2 [{0 1}] [{0 0 0}] [0] 0
	// true []
	// 1 0
	// 5 [0]
	// true 0x3cb484ba01 1
	// 20 0 1 13 false 1
}
