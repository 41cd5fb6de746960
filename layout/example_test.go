package layout_test

import (
	"fmt"

	"futtock/layout"
)

// Example does what README.md shows.
func Example() {
	fmt.Println(layout.At(layout.Header, 5, 0), layout.At(layout.Proto, 3, 0))
	fmt.Println(layout.At(layout.Lock, 2, 0), layout.At(layout.Disp, 2, 0))
	fmt.Println(layout.At(layout.State, 1, 0), layout.At(layout.Next, 1, 0))
	fmt.Println(layout.At(layout.Saved, 1, 2), layout.At(layout.Saved, 1, 8), layout.At(layout.Proto, 4, 0))
	fmt.Println(layout.What(74))
	fmt.Println(layout.What(12))
	fmt.Println(layout.All(2, 1, 1, 1))
	fmt.Println(layout.All(0, 2, 99, -1))
	// Output:
	// 5 11
	// 18 34
	// 49 57
	// 74 -1 -1
	// 7 1 2
	// 0 0 0
	// [0 8 16 32 48 49 56 57 64 72]
	// [0 1 8 9 10 11]
}
