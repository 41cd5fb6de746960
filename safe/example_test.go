package safe_test

import (
	"fmt"

	"futtock/safe"
)

// Example does what README.md shows.
func Example() {
	m, err := safe.New(2)
	fmt.Println(int(err))
	err = m.Put(0, safe.Stands)
	fmt.Println(int(err), m.Still())
	n := m.Request()
	fmt.Println(n)
	n = m.Request()
	fmt.Println(n, m.Wanted(), m.May(0), m.May(1))
	err = m.Put(0, safe.Runs)
	fmt.Println(int(err))
	n, err = m.Done()
	fmt.Println(n, int(err))
	err = m.Put(1, safe.Sleeps)
	fmt.Println(int(err), m.Still())
	n, err = m.Done()
	fmt.Println(n, int(err))
	fmt.Println(m.Wanted(), m.May(0), m.May(1), m.Rounds())
	err = m.Put(0, safe.Runs)
	fmt.Println(int(err), m.State(1))
	// Output:
	// 0
	// 0 false
	// 1
	// 2 true false true
	// 9
	// 0 9
	// 0 true
	// 2 0
	// false true false 1
	// 0 2
}
