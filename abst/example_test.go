package abst_test

import (
	"fmt"

	"futtock/abst"
	"futtock/api"
	"futtock/core"
	"futtock/op"
)

func Example() {
	mine, _ := op.Parse("enter 0; enter 0; wait 0")
	other, _ := op.Parse("hash 0; enter 0")
	c := api.Config{Threads: 2, Objects: 1, Classes: 1, Slots: 1, Count: 3, Rebias: 1, Revoke: 1}
	m, err := core.New(c, [][]api.Op{mine, other})
	s, ok := abst.Of(m, 0)
	fmt.Println(s, ok, err == api.OK)
	for range 7 {
		m.Pick(0)
	}
	s, ok = abst.Of(m, 0)
	fmt.Println(s, ok)
	for m.Pick(0) {
	}
	s, ok = abst.Of(m, 0)
	fmt.Println(s, ok)
	for m.Pick(1) {
	}
	fmt.Println(abst.All(m), abst.Model(m, 0))
	fmt.Println(abst.Same(s, abst.Model(m, 0)), abst.Agrees(m))
	s, ok = abst.Of(m, 1)
	fmt.Println(s, ok)
	// Output:
	// {-1 0 [] 0} true true
	// {0 2 [] 0} true
	// {-1 0 [0] 0} true
	// [{1 1 [0] 1018463418}] {1 1 [0] 1018463418}
	// false true
	// {-1 0 [] 0} false
}
