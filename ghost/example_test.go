package ghost_test

import (
	"fmt"

	"futtock/api"
	"futtock/ghost"
	"futtock/model"
)

// Example does what README.md shows.
func Example() {
	l, err := ghost.New(2, 1, 60)
	fmt.Println(int(err))
	err = l.Add(ghost.Entry{Kind: ghost.Call, Thread: 1, Op: api.Op{Kind: 3}})
	fmt.Println(int(err))
	o, ok := l.Open(1)
	fmt.Println(o.Kind, ok)
	err = l.Add(ghost.Entry{Kind: ghost.Return, Thread: 1, Err: api.ErrState})
	fmt.Println(int(err))
	e := model.Event{Kind: model.Exit, Thread: 1, Err: api.ErrState}
	err = l.Add(ghost.Entry{Kind: ghost.Commit, Thread: 1, Event: e})
	fmt.Println(int(err))
	err = l.Add(ghost.Entry{Kind: ghost.Return, Thread: 1, Err: api.ErrState})
	fmt.Println(int(err))
	o, ok = l.Open(1)
	fmt.Println(o.Kind, ok)
	err = l.Add(ghost.Entry{Kind: ghost.Call, Thread: 1, Number: 1, Op: api.Op{Kind: 1}})
	fmt.Println(int(err))
	n := l.Len()
	fmt.Println(n)
	owner := l.Model().Owner(0)
	fmt.Println(owner)
	n, ok = ghost.Right(2, 1, 60, l.All())
	fmt.Println(n, ok)
	n, ok = ghost.Right(2, 1, 60, l.All()[1:])
	fmt.Println(n, ok)
	// Output:
	// 0
	// 0
	// 3 true
	// 15
	// 0
	// 0
	// 0 false
	// 0
	// 4
	// -1
	// 4 true
	// 0 false
}
