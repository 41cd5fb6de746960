package lock_test

import (
	"fmt"

	"futtock/lock"
)

// Example does what README.md shows.
func Example() {
	w, ok := lock.Take(0, 3)
	fmt.Println(w, ok)
	w, ok = lock.Push(w, 0)
	fmt.Println(w, ok, lock.Owner(w), lock.Head(w))
	w, ok = lock.Drain(w, 3)
	fmt.Println(w, ok)
	w, ok = lock.Hand(w, 3, 0)
	fmt.Println(w, ok)
	w, ok = lock.Release(w, 0)
	fmt.Println(w, ok, lock.Free(w))
	// Output:
	// 4 true
	// 65540 true 3 0
	// 4 true
	// 1 true
	// 0 true true
}
