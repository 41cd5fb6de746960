package model_test

import (
	"fmt"

	"futtock/model"
)

// Example does what README.md shows.
func Example() {
	m, err := model.New(2, 1, 60)
	fmt.Println(int(err))
	err = m.Apply(model.Event{Kind: model.Enter, Thread: 0})
	fmt.Println(int(err))
	err = m.Apply(model.Event{Kind: model.Enter, Thread: 0})
	fmt.Println(int(err), m.Owner(0), m.Count(0))
	err = m.Apply(model.Event{Kind: model.Enter, Thread: 1})
	fmt.Println(int(err))
	err = m.Apply(model.Event{Kind: model.Begin, Thread: 0})
	fmt.Println(int(err), m.Owner(0), m.Waiters(0))
	err = m.Apply(model.Event{Kind: model.Enter, Thread: 1})
	fmt.Println(int(err))
	err = m.Apply(model.Event{Kind: model.Wake, Thread: 1, Arg: 0})
	fmt.Println(int(err), m.Waiters(0), m.Left(0))
	c := m.Clone()
	err = m.Apply(model.Event{Kind: model.Exit, Thread: 1})
	fmt.Println(int(err))
	err = m.Apply(model.Event{Kind: model.End, Thread: 0})
	fmt.Println(int(err), m.Owner(0), m.Count(0), m.Left(0))
	err = m.Apply(model.Event{Kind: model.Hash, Thread: 1, Arg: 7})
	fmt.Println(int(err), m.Hash(0))
	err = m.Apply(model.Event{Kind: model.Interrupt, Thread: 0, Arg: 1})
	fmt.Println(int(err), m.Flag(1))
	fmt.Println(m.Same(c), c.Owner(0))
	// Output:
	// 0
	// 0
	// 0 0 2
	// 15
	// 0 -1 [0]
	// 0
	// 0 [] [0]
	// 0
	// 0 0 2 []
	// 0 7
	// 0 true
	// false 1
}
