package ring_test

import (
	"fmt"

	"futtock/ring"
)

// Example does what README.md shows.
func Example() {
	r, ok := ring.Ring{}.Add(ring.Waiter{Thread: 3, Count: 1})
	fmt.Println(r.All(), ok)
	r, ok = r.Add(ring.Waiter{Thread: 0, Count: 60})
	fmt.Println(r.All(), ok)
	r, ok = r.Add(ring.Waiter{Thread: 7, Count: 2})
	fmt.Println(r.All(), ok)
	same, ok := r.Add(ring.Waiter{Thread: 3, Count: 5})
	fmt.Println(same.All(), ok)
	w, ok := r.First()
	fmt.Println(w, ok)
	turned := r.Turn()
	fmt.Println(turned.All())
	w, rest, ok := turned.Remove(7)
	fmt.Println(w, rest.All(), ok)
	w, rest, ok = rest.Remove(7)
	fmt.Println(w, rest.All(), ok)
	waiters := r.All()
	fmt.Println(waiters)
	n := rest.Len()
	fmt.Println(n)
	ok = ring.Goes(ring.Waiting, ring.Told)
	fmt.Println(ok)
	ok = ring.Goes(ring.Told, ring.Late)
	fmt.Println(ok)
	// Output:
	// [{3 1}] true
	// [{3 1} {0 60}] true
	// [{3 1} {0 60} {7 2}] true
	// [{3 1} {0 60} {7 2}] false
	// {3 1} true
	// [{0 60} {7 2} {3 1}]
	// {7 2} [{0 60} {3 1}] true
	// {0 0} [{0 60} {3 1}] false
	// [{3 1} {0 60} {7 2}]
	// 2
	// true
	// false
}
