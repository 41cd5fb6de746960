package run_test

import (
	"fmt"

	"futtock/api"
	"futtock/op"
	"futtock/run"
	"futtock/script"
)

// Example does what README.md shows.
func Example() {
	mine, _ := op.Parse("enter 0; wait 0 5; exit 0")
	other, _ := op.Parse("try 0; hash 0; exit 0")
	s := script.Script{
		Config: api.Config{Threads: 2, Objects: 1, Classes: 1, Slots: 1, Count: 3, Rebias: 1, Revoke: 1},
		Progs:  [][]api.Op{mine, other},
		Turns:  []script.Turn{{Kind: script.Pick, N: 0}, {Kind: script.Tick, N: 2}, {Kind: script.Pick, N: 0}},
	}
	m, err := run.Play(s)
	fmt.Println(int(err), m.Now(), run.Sum(m).Steps)
	did := run.Turn(m, script.Turn{Kind: script.Pick, N: 2})
	fmt.Println(did)
	ok := run.Finish(m, 10)
	fmt.Println(ok, m.Now())
	ok = run.Finish(m, 1000)
	fmt.Println(ok, m.Now())
	for _, a := range run.Answers(m, 0) {
		fmt.Println(a.Number, a.Op, a.Value, int(a.Err))
	}
	fmt.Printf("%+v\n", run.Sum(m))
	b, _ := script.Lay(s)
	again, err := run.Bytes(b)
	fmt.Println(run.Sum(again).Steps, int(err))
	none, err := run.Bytes(b[:20])
	fmt.Println(none == nil, int(err))
	// Output:
	// 0 2 2
	// false
	// false 12
	// true 31
	// 0 {1 0 0} 0 0
	// 1 {4 0 5} 0 13
	// 2 {3 0 0} 0 0
	// {Steps:48 Commits:8 Ended:2 Asleep:0 Neutral:0 Biased:0 Thin:0 Fat:1 Used:1 Rounds:0}
	// 2 0
	// true 4
}
