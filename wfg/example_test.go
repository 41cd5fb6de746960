package wfg_test

import (
	"fmt"

	"futtock/api"
	"futtock/core"
	"futtock/op"
	"futtock/wfg"
)

// Example does what README.md shows.
func Example() {
	var g wfg.Graph
	g, err := g.Add(0, 1)
	fmt.Println(int(err))
	g, _ = g.Add(2, 0)
	other, _ := g.Add(1, 0)
	ok := g.Has(0, 1)
	l := g.Next(2)
	fmt.Println(ok, l)
	l = g.Reach(2)
	fmt.Println(l)
	l, ok = g.Order()
	fmt.Println(l, ok)
	l = g.Ring()
	fmt.Println(l, g.Len())
	l = other.Ring()
	fmt.Println(l)
	l, ok = other.Order()
	fmt.Println(l, ok)
	g, err = g.Add(0, 64)
	fmt.Println(g.Len(), int(err))

	mine, _ := op.Parse("enter 0; enter 1")
	yours, _ := op.Parse("enter 1; enter 0")
	theirs, _ := op.Parse("enter 0")
	c := api.Config{Threads: 3, Objects: 2, Classes: 1, Slots: 2, Count: 3, Rebias: 1, Revoke: 1}
	m, _ := core.New(c, [][]api.Op{mine, yours, theirs})
	for range 6 {
		m.Pick(0)
		m.Pick(1)
	}
	fmt.Println(wfg.Of(m) == wfg.Graph{})
	for m.Pick(0) || m.Pick(2) {
	}
	g = wfg.Of(m)
	fmt.Println(g.Next(0), g.Next(2), g.Len())
	l = wfg.Stuck(m)
	fmt.Println(l)
	for m.Pick(1) {
	}
	l = wfg.Of(m).Ring()
	fmt.Println(l)
	l = wfg.Stuck(m)
	fmt.Println(l)
	// Output:
	// 0
	// true [0]
	// [0 1]
	// [1 0 2] true
	// [] 2
	// [0 1]
	// [] false
	// 2 1
	// true
	// [1] [0] 2
	// []
	// [0 1]
	// [0 1 2]
}
