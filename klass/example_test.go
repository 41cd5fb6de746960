package klass_test

import (
	"fmt"

	"futtock/klass"
)

// Example does what README.md shows.
func Example() {
	c := klass.Class{Biased: true}
	w := c.Header()
	fmt.Println(w, c.Valid(w))
	todo, c := c.Policy(1, 2)
	fmt.Println(todo == klass.Rebias, c.Count)
	c = c.Anew()
	fmt.Println(c.Epoch, c.Valid(w))
	w, ok := klass.Fresh(w, c)
	fmt.Println(w, ok, c.Valid(w))
	todo, c = c.Policy(1, 2)
	fmt.Println(todo == klass.Revoke, c.Count)
	c = c.Never()
	fmt.Println(c.Header(), c.Valid(w))
	// Output:
	// 5 true
	// true 1
	// 1 false
	// 261 true true
	// true 2
	// 1 false
}
