package record_test

import (
	"fmt"

	"futtock/record"
)

// Example does what README.md shows.
func Example() {
	s, err := record.New(8)
	fmt.Println(int(err))
	at, err := s.Push(7, 0x711)
	fmt.Println(at, int(err))
	at, err = s.Push(8, 1)
	fmt.Println(at, int(err))
	at, err = s.Push(7, 0)
	fmt.Println(at, int(err))
	fmt.Println(s.Count(7), s.Len(), s.Objects())
	fmt.Println(s.First(7))
	fmt.Println(s.Top(7))
	r, err := s.Pop(7)
	fmt.Println(r.Obj, r.Saved, int(err))
	r, err = s.Pop(7)
	fmt.Printf("%d %#x %d\n", r.Obj, r.Saved, int(err))
	fmt.Println(s.Top(7))
	fmt.Println(int(s.Save(0, 9)))
	r, err = s.Get(0)
	fmt.Println(r.Obj, r.Saved, int(err))
	// Output:
	// 0
	// 0 0
	// 1 0
	// 2 0
	// 2 3 [7 8]
	// 0 true
	// 2 true
	// 7 0 0
	// 7 0x711 0
	// -1 false
	// 0
	// 8 9 0
}
