package plan_test

import (
	"fmt"

	"futtock/klass"
	"futtock/plan"
)

// Example does what README.md shows.
func Example() {
	mine := plan.Object{Word: 0x1000005, Count: []int{1, 0}}
	old := plan.Object{Word: 0x2000005, Count: []int{0, 0}}
	c, ok := plan.One(7, mine)
	fmt.Printf("%d %#x %d %d %v\n", c.Obj, c.Word, c.Owner, c.Saved, ok)
	c, ok = plan.One(7, old)
	fmt.Printf("%d %#x %d %d %v\n", c.Obj, c.Word, c.Owner, c.Saved, ok)
	objects := []plan.Object{mine, old, mine}
	classes := []klass.Class{{Biased: true}}
	for range 3 {
		todo, behind, changes, err := plan.Revoke(objects, classes, 1, 2, 3)
		fmt.Println(todo, behind, int(err))
		for _, c := range changes {
			fmt.Printf("- %d %#x %d %d\n", c.Obj, c.Word, c.Owner, c.Saved)
		}
		classes = behind
	}
	fmt.Println(plan.Owner(0x2000005), plan.Owner(5))
	// Output:
	// 7 0x1000700 0 1 true
	// 7 0x1 -1 0 true
	// 0 [{true 0 1}] 0
	// - 1 0x1 -1 0
	// 1 [{true 1 2}] 0
	// - 0 0x1000105 0 0
	// - 2 0x1000105 0 0
	// - 1 0x1 -1 0
	// 2 [{false 1 3}] 0
	// - 0 0x1000000 0 1
	// - 1 0x1 -1 0
	// - 2 0x1000200 0 1
	// 1 -1
}
