package field_test

import (
	"fmt"

	"futtock/field"
)

// Example does what README.md shows.
func Example() {
	age := field.Field{At: 3, Width: 4}
	owner := field.Field{At: 24, Width: 16}
	w, ok := field.Join([]field.Field{age, owner}, []uint64{2, 1})
	fmt.Printf("%#x %v\n", w, ok)
	w = age.Put(w, 15)
	fmt.Printf("%#x\n", w)
	fmt.Println(field.Split([]field.Field{age, owner}, w))
	// Output:
	// 0x1000010 true
	// 0x1000078
	// [15 1]
}
