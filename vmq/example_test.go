package vmq_test

import (
	"fmt"

	"futtock/vmq"
)

// Example does what README.md shows.
func Example() {
	q := vmq.New()
	isNew, err := q.Ask(vmq.Request{Kind: vmq.Revoke, Obj: 3}, 0)
	fmt.Println(isNew, int(err))
	isNew, err = q.Ask(vmq.Request{Kind: vmq.Deflate}, -1)
	fmt.Println(isNew, int(err))
	isNew, err = q.Ask(vmq.Request{Kind: vmq.Revoke, Obj: 3}, 1)
	fmt.Println(isNew, int(err))
	isNew, err = q.Ask(vmq.Request{Kind: vmq.Revoke, Obj: 4}, 1)
	fmt.Println(isNew, int(err))
	fmt.Println(q.Waits(1), q.Len(), q.All())
	r, threads, ok := q.Next()
	fmt.Println(r, threads, ok, q.Waits(1))
	r, threads, ok = q.Next()
	fmt.Println(r, threads, ok)
	r, threads, ok = q.Next()
	fmt.Println(r, threads, ok)
	// Output:
	// true 0
	// true 0
	// false 0
	// false 7
	// true 2 [{1 3} {2 0}]
	// {1 3} [0 1] true false
	// {2 0} [] true
	// {0 0} [] false
}
