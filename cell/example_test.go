package cell_test

import (
	"fmt"

	"futtock/cell"
)

// Example does what README.md shows.
func Example() {
	m, err := cell.New(2)
	fmt.Println(int(err))
	fmt.Println(m.CAS(0, 0, 5))
	fmt.Println(m.CAS(0, 0, 6))
	fmt.Println(m.Store(1, 7), m.Load(1), m.Look(1))
	fmt.Println(m.Count(), m.All())
	// Output:
	// 0
	// 0 true
	// 5 false
	// true 7 7
	// 4 [5 7]
}
