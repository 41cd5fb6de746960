package queue_test

import (
	"fmt"

	"futtock/queue"
)

// Example does what README.md shows.
func Example() {
	q, n := queue.Queue{}.Drain([]int{3, 2, 1})
	fmt.Println(q.All(), n)
	q, ok := q.Append(7)
	fmt.Println(q.All(), ok)
	same, ok := q.Append(2)
	fmt.Println(same.All(), ok)
	thread, rest, ok := q.Pop()
	fmt.Println(thread, rest.All(), ok)
	rest, ok = rest.Remove(3)
	fmt.Println(rest.All(), ok)
	ok = rest.Has(3)
	fmt.Println(ok)
	threads := q.All()
	fmt.Println(threads)
	n = same.Len()
	fmt.Println(n)
	thread, _, ok = queue.Queue{}.Pop()
	fmt.Println(thread, ok)
	// Output:
	// [1 2 3] 3
	// [1 2 3 7] true
	// [1 2 3 7] false
	// 1 [2 3 7] true
	// [2 7] true
	// false
	// [1 2 3 7]
	// 4
	// -1 false
}
