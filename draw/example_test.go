package draw_test

import (
	"fmt"

	"futtock/draw"
)

// Example does what README.md shows.
func Example() {
	fmt.Println(draw.Stir(1))
	s := draw.New(0)
	fmt.Println(s.State(), s.Count())
	fmt.Println(s.Hash())
	fmt.Println(s.Hash())
	fmt.Println(s.State(), s.Count())
	// Output:
	// 1082269761
	// 88172645463325252 0
	// 1018463418
	// 354007467
	// 3040900993826735515 2
}
