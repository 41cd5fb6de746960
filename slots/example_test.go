package slots_test

import (
	"fmt"

	"futtock/slots"
)

// Example does what README.md shows.
func Example() {
	t, err := slots.New(3, 2)
	fmt.Println(int(err), t.Made())
	slot, gen, err := t.Take(0)
	fmt.Println(slot, gen, int(err))
	slot, gen, err = t.Take(0)
	fmt.Println(slot, gen, int(err))
	fmt.Println(t.Made(), t.InUse(), t.Left())
	fmt.Println(int(t.Free(7, 0)))
	fmt.Println(t.Own(7), t.Used(0))
	gen, err = t.Gen(0)
	fmt.Println(gen, int(err))
	slot, gen, err = t.Take(0)
	fmt.Println(slot, gen, int(err))
	slot, gen, err = t.Take(0)
	fmt.Println(slot, gen, int(err))
	fmt.Println(t.Flush(7))
	slot, gen, err = t.Take(0)
	fmt.Println(slot, gen, int(err))
	fmt.Println(t.Check(0, 0), t.Check(0, 1))
	// Output:
	// 0 0
	// 0 0 0
	// 1 0 0
	// 1 [0 1] 1
	// 0
	// [0] false
	// 1 0
	// 2 0 0
	// 0 0 11
	// 1
	// 0 1 0
	// false true
}
