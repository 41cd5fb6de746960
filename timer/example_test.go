package timer_test

import (
	"fmt"

	"futtock/timer"
)

// Example does what README.md shows.
func Example() {
	c := timer.New()
	err := c.Set(1, 5)
	err = c.Set(2, 3)
	err = c.Set(7, 9)
	fmt.Println(int(err), c.Len())
	at, ok := c.At(2)
	fmt.Println(at, ok)
	at, ok = c.Next()
	fmt.Println(at, ok)
	fmt.Println(c.Tick(5), c.Now())
	fmt.Println(c.Clear(7), c.Clear(7))
	at, ok = c.Next()
	fmt.Println(at, ok)
	// Output:
	// 0 3
	// 3 true
	// 3 true
	// [2 1] 5
	// true false
	// 0 false
}
