package permit_test

import (
	"fmt"

	"futtock/permit"
)

// Example does what README.md shows.
func Example() {
	t, err := permit.New(3)
	fmt.Println(int(err))
	woke, err := t.Unpark(0)
	fmt.Println(woke, int(err), t.Permit(0))
	slept, err := t.Park(0)
	fmt.Println(slept, int(err))
	slept, err = t.Park(0)
	fmt.Println(slept, int(err))
	slept, err = t.Park(2)
	fmt.Println(slept, int(err))
	fmt.Println(t.Sleepers(), t.Asleep(1))
	woke, err = t.Unpark(0)
	fmt.Println(woke, int(err))
	woke, err = t.Interrupt(2)
	fmt.Println(woke, int(err), t.Flag(2))
	fmt.Println(t.Take(2), t.Take(2))
	// Output:
	// 0
	// false 0 true
	// false 0
	// true 0
	// true 0
	// [0 2] false
	// true 0
	// true 0 true
	// true false
}
