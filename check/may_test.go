package check_test

import (
	"math"
	"testing"

	"futtock/api"
	"futtock/check"
	"futtock/model"
)

// numbersOfAll are such as may be of something, and such as may not.
var numbersOfAll = []int{0, 1, -1, 2, -2, 7, 8, 12, 13, 60, 61, 255, 1<<31 - 1, 1 << 31, 1 << 32, 1<<32 - 1, 1<<32 + 1, -1 << 32, math.MaxInt, math.MinInt}

// P23.1: the kinds that count here are calls, whatever else their transitions tell;
// Begin, Leave, End, Wake, and those that are none, are not.
func TestMayByKinds(t *testing.T) {
	counts := map[int]bool{
		model.Enter: true, model.Try: true, model.Exit: true, model.All: true, model.Holds: true, model.Interrupt: true,
		model.Begin: false, model.Leave: false, model.End: false, model.Wake: false,
		0: false, -1: false, 13: false, 14: false, 16: false, 1<<32 + 1: false, 1<<8 + 1: false, math.MaxInt: false, math.MinInt: false,
	}
	for kind, want := range counts {
		for err := api.Errno(-1); err <= 16; err++ {
			for _, n := range numbersOfAll {
				for _, e := range []model.Event{{Kind: kind, Err: err, Arg: n}, {Kind: kind, Err: err, Thread: n}, {Kind: kind, Err: err, Obj: n}} {
					if c := (check.Call{Event: e, From: 1, To: 2}); check.May(c) != want {
						t.Fatalf("May of %+v is %v", c, !want)
					}
				}
			}
		}
	}
}

// P23.1: of Hash just one that is OK, whatever its hash.
func TestMayOfHash(t *testing.T) {
	for _, arg := range numbersOfAll {
		for err := api.Errno(-1); err <= 16; err++ {
			c := check.Call{Event: model.Event{Kind: model.Hash, Arg: arg, Err: err}, To: 1}
			if check.May(c) != (err == api.OK) {
				t.Errorf("May of %+v is %v", c, check.May(c))
			}
		}
	}
}

// P23.1: of Notify just one of the Arg -1, whatever its error.
func TestMayOfNotify(t *testing.T) {
	for _, arg := range numbersOfAll {
		for err := api.Errno(-1); err <= 16; err++ {
			c := check.Call{Event: model.Event{Kind: model.Notify, Arg: arg, Err: err}, To: 1}
			if check.May(c) != (arg == -1) {
				t.Errorf("May of %+v is %v", c, check.May(c))
			}
		}
	}
}

// P23.1: From is below To: not at it, and not above.
func TestMayByTimes(t *testing.T) {
	times := []int{math.MinInt, math.MinInt + 1, -1 << 32, -2, -1, 0, 1, 2, 1 << 31, 1 << 32, math.MaxInt - 1, math.MaxInt}
	for i, from := range times {
		for k, to := range times {
			for _, e := range []model.Event{{Kind: model.Enter}, {Kind: model.Hash, Arg: 7}, {Kind: model.Notify, Arg: -1}} {
				c := check.Call{Event: e, From: from, To: to}
				if check.May(c) != (i < k) {
					t.Errorf("May of %+v is %v", c, check.May(c))
				}
			}
		}
	}
	if check.May(check.Call{}) {
		t.Error("May of none is true")
	}
}
