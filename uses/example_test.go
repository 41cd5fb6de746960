package uses_test

import (
	"fmt"

	"futtock/uses"
)

// Example does what README.md shows.
func Example() {
	b := uses.New()
	err := b.Add(uses.Pair{Slot: 5, Obj: 7, Thread: 2})
	fmt.Println(int(err))
	err = b.Add(uses.Pair{Slot: 1, Obj: 9, Thread: 2})
	fmt.Println(int(err))
	err = b.Add(uses.Pair{Slot: 3, Obj: 9, Thread: 0})
	fmt.Println(int(err))
	err = b.Add(uses.Pair{Slot: 3, Obj: 8, Thread: 0})
	fmt.Println(int(err))
	slot, ok := b.Slot(7)
	fmt.Println(slot, ok)
	obj, ok := b.Obj(1)
	fmt.Println(obj, ok)
	fmt.Println(b.Of(2), b.Len())
	p, err := b.Drop(1)
	fmt.Println(p, int(err))
	p, err = b.Drop(1)
	fmt.Println(p, int(err))
	slot, ok = b.Slot(9)
	fmt.Println(slot, ok)
	fmt.Println(b.All())
	// Output:
	// 0
	// 0
	// 7
	// 0
	// 5 true
	// 9 true
	// [{1 9 2} {5 7 2}] 3
	// {1 9 2} 0
	// {0 0 0} 6
	// 0 false
	// [{3 8 0} {5 7 2}]
}
