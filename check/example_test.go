package check_test

import (
	"fmt"

	"futtock/api"
	"futtock/check"
	"futtock/model"
)

// Example does what README.md shows.
func Example() {
	a := check.Call{Event: model.Event{Kind: model.Enter, Thread: 0}, From: 2, To: 9}
	b := check.Call{Event: model.Event{Kind: model.Enter, Thread: 1}, From: 1, To: 5}
	c := check.Call{Event: model.Event{Kind: model.Exit, Thread: 1}, From: 5, To: 7}
	ok := check.May(a)
	fmt.Println(ok)
	ok, err := check.Can(2, 1, 60, []check.Call{a, b, c})
	fmt.Println(ok, int(err))
	order, err := check.Order(2, 1, 60, []check.Call{a, b, c})
	fmt.Println(order, int(err))
	n, ok := check.Serial(2, 1, 60, []check.Call{a, b, c})
	fmt.Println(n, ok)
	n, ok = check.Serial(2, 1, 60, []check.Call{b, c, a})
	fmt.Println(n, ok)
	ok, err = check.Can(2, 1, 60, []check.Call{a, b})
	fmt.Println(ok, int(err))
	a.To = 4
	ok, err = check.Can(2, 1, 60, []check.Call{a, b, c})
	fmt.Println(ok, int(err))
	a.Event.Err = api.ErrOut
	order, err = check.Order(2, 1, 60, []check.Call{a, b, c})
	fmt.Println(order, int(err))
	a.From = 4
	ok, err = check.Can(2, 1, 60, []check.Call{a, b, c})
	fmt.Println(ok, int(err))
	// Output:
	// true
	// true 0
	// [1 2 0] 0
	// 1 false
	// 3 true
	// false 0
	// false 0
	// [1 0 2] 0
	// false 1
}
