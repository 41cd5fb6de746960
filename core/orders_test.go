package core_test

import (
	"fmt"
	"strconv"
	"testing"

	"futtock/api"
)

// row is programs all of whose orders are gone through, with so many Ticks of 1 and
// Deflates between, what is told in some of them, and what in none.
type row struct {
	c        api.Config
	ticks    int
	deflates int
	progs    []string
	told     []string
	never    []string
	// first are threads that are picked as far as they go, ahead of all.
	first []int
}

// rows goes through all orders of each of them, side by side.
func rows(t *testing.T, l []row) {
	t.Helper()
	for i, x := range l {
		t.Run(fmt.Sprint(i), func(t *testing.T) {
			t.Parallel()
			l := orders(t, x.c, x.ticks, x.deflates, x.path(t), x.progs...)
			l.has(x.told...)
			l.hasNot(x.never...)
			t.Logf("%d machines, %d ends, %v", len(l.seen), l.ends, l.told)
		})
	}
}

// path are the moves by which those who are first go as far as they do.
func (x row) path(t *testing.T) []string {
	t.Helper()
	m := made(t, x.c, x.progs...)
	var path []string
	for _, thread := range x.first {
		for range exhaust(m, thread) {
			path = append(path, strconv.Itoa(thread))
		}
	}
	return path
}

// small is a configuration of so many threads and slots, of biased classes or not.
func small(threads, slots int, bias uint8) api.Config {
	return with(least(threads), func(c *api.Config) { c.Slots, c.Bias = slots, bias })
}

// P21.4 to P21.6: all orders of the steps of two threads that enter and leave.
func TestOrdersOfTwoThatEnter(t *testing.T) {
	const once, twice = "enter 0; exit 0", "enter 0; enter 0; exit 0; exit 0"
	spin := func(c *api.Config) { c.Spin = 1 }
	one := func(c *api.Config) { c.Count = 1 }
	two := func(c *api.Config) { c.Objects = 2 }
	rows(t, []row{
		{c: small(2, 1, 0), deflates: 2, progs: []string{once, once}, told: []string{"enter ok", "exit ok"}, never: []string{"enter out", "exit state", "enter over"}},
		{c: small(2, 1, 1), deflates: 2, progs: []string{once + "; " + once, once}, told: []string{"enter ok", "exit ok"}, never: []string{"enter out", "exit state"}},
		{c: small(2, 2, 1), deflates: 1, progs: []string{twice, twice}, told: []string{"enter ok"}, never: []string{"enter out", "enter over"}},
		{c: with(small(2, 1, 0), spin), deflates: 1, progs: []string{twice, "try 0; exit 0; try 0"}, told: []string{"try ok", "try busy", "exit state"}, never: []string{"enter out"}},
		{c: with(small(2, 1, 1), spin), deflates: 1, progs: []string{twice, "try 0; exit 0; try 0"}, told: []string{"try ok", "try busy", "exit state"}, never: []string{"enter out"}},
		{c: with(small(2, 1, 0), one), deflates: 1, progs: []string{twice, once}, told: []string{"enter over", "exit state"}, never: []string{"enter out"}},
		{c: with(small(2, 1, 0), two), deflates: 1, progs: []string{"enter 0; enter 1; exit 1; exit 0", "enter 1; exit 1; enter 0; exit 0"}, told: []string{"enter out", "enter ok"}, never: []string{"enter over"}},
		{c: with(small(2, 2, 0), two), progs: []string{"enter 0; enter 1; exit 0; exit 1", "enter 1; enter 0; exit 0; exit 1"}, told: []string{"enter ok"}, never: []string{"enter out", "exit state"}},
		{c: with(small(2, 2, 1), two), progs: []string{"enter 0; enter 1; exit 1; exit 0", "enter 0; exit 1; exit 0; hash 1"}, told: []string{"exit state", "hash ok"}},
		{c: small(2, 1, 0), deflates: 2, progs: []string{"enter 0", once}, told: []string{"enter ok"}, never: []string{"enter out"}},
	})
}

// P21.4 to P21.6: so of two, of whom one waits.
func TestOrdersOfTwoThatWait(t *testing.T) {
	const wait, waitFor = "enter 0; wait 0; exit 0", "enter 0; wait 0 1; exit 0"
	rows(t, []row{
		{c: small(2, 1, 0), deflates: 1, progs: []string{wait, "enter 0; notify 0; exit 0"}, told: []string{"wake ok", "notify nobody", "begin out", "end ok", "enter out"}, never: []string{"leave time", "end time"}},
		{c: small(2, 2, 0), deflates: 1, progs: []string{wait, "enter 0; all 0; exit 0"}, told: []string{"wake ok", "all ok", "end ok"}, never: []string{"begin out", "enter out", "leave time"}},
		{c: small(2, 2, 0), ticks: 2, progs: []string{waitFor, "enter 0; notify 0; exit 0"}, told: []string{"wake ok", "leave time", "end time", "end ok", "notify nobody"}, never: []string{"begin out"}},
		{c: small(2, 1, 1), ticks: 1, deflates: 1, progs: []string{waitFor, "enter 0; notify 0; exit 0"}, told: []string{"wake ok", "leave time", "end time", "end ok"}},
		{c: small(2, 1, 0), deflates: 1, progs: []string{wait, "interrupt 0"}, told: []string{"begin intr", "leave intr", "end intr"}, never: []string{"leave time"}},
		{c: small(2, 2, 0), progs: []string{wait, "interrupt 0; enter 0; notify 0; exit 0"}, told: []string{"begin intr", "leave intr", "end intr", "end ok", "wake ok"}},
		{c: small(2, 2, 0), ticks: 1, progs: []string{waitFor, "interrupt 0; enter 0; all 0; exit 0"}, told: []string{"begin intr", "leave intr", "leave time", "end time", "end ok"}},
		{c: small(2, 2, 0), deflates: 1, progs: []string{"enter 0; enter 0; wait 0; exit 0; exit 0", "enter 0; all 0; interrupt 0; exit 0"}, told: []string{"end ok", "begin intr"}, never: []string{"leave intr"}},
		{c: small(2, 2, 0), deflates: 1, progs: []string{"enter 0; enter 0; wait 0; exit 0; exit 0", "enter 0; interrupt 0; all 0; exit 0"}, told: []string{"end ok", "begin intr", "leave intr", "end intr"}},
		{c: small(2, 2, 0), ticks: 1, progs: []string{waitFor, waitFor}, told: []string{"end time"}, never: []string{"end ok"}},
		{c: small(2, 1, 0), deflates: 1, progs: []string{"enter 0; wait 0", "enter 0; notify 0; wait 0"}, told: []string{"end ok", "wake ok"}},
	})
}

// P21.4 to P21.6: so of two, of whom one hashes.
func TestOrdersOfTwoThatHash(t *testing.T) {
	const once = "enter 0; exit 0"
	rows(t, []row{
		{c: small(2, 1, 0), deflates: 2, progs: []string{"hash 0; hash 0", "hash 0"}, told: []string{"hash ok"}, never: []string{"hash out"}},
		{c: small(2, 1, 0), deflates: 2, progs: []string{once + "; " + once, "hash 0; hash 0"}, told: []string{"hash ok"}, never: []string{"hash out"}},
		{c: small(2, 1, 1), deflates: 2, progs: []string{"enter 0; hash 0; exit 0", "hash 0"}, told: []string{"hash ok", "hash out"}},
		{c: small(2, 2, 1), deflates: 1, progs: []string{"enter 0; hash 0; exit 0", "hash 0; enter 0; holds 0"}, told: []string{"hash ok", "holds ok"}, never: []string{"hash out"}},
	})
}

// P21.4 to P21.6: so of three threads.
func TestOrdersOfThree(t *testing.T) {
	const once, wait, waitFor = "enter 0; exit 0", "enter 0; wait 0", "enter 0; wait 0 1; exit 0"
	two := func(c *api.Config) { c.Objects = 2 }
	policy := func(c *api.Config) { c.Objects, c.Rebias, c.Revoke = 2, 1, 2 }
	rows(t, []row{
		{c: small(3, 3, 0), progs: []string{once, once, "enter 0"}, told: []string{"enter ok"}, never: []string{"enter out"}},
		{c: small(3, 1, 1), progs: []string{once, "try 0", "hash 0"}, told: []string{"try busy", "hash ok"}},
		{c: small(3, 2, 0), deflates: 1, progs: []string{once, "hash 0", "hash 0"}, told: []string{"hash ok"}},
		{c: with(small(3, 1, 0), two), progs: []string{"enter 0; exit 0", "enter 1; exit 1", "hash 0; hash 1"}, told: []string{"hash ok", "hash out"}},
		{c: with(small(3, 1, 1), policy), progs: []string{"enter 0; exit 0; enter 1", "try 1; exit 1", "hash 0"}, told: []string{"hash ok", "try ok"}},
		{c: small(3, 3, 0), progs: []string{"hash 0; enter 0; wait 0", "enter 0", "interrupt 0"}, told: []string{"begin ok", "begin intr", "leave intr"}},
		{c: small(3, 3, 0), progs: []string{wait, wait, "enter 0; all 0; exit 0"}, told: []string{"end ok", "wake ok"}, first: []int{0}},
		{c: small(3, 3, 0), progs: []string{wait, wait, "enter 0; notify 0; exit 0"}, told: []string{"end ok", "wake ok"}, never: []string{"notify nobody"}, first: []int{1}},
		{c: small(3, 3, 0), deflates: 1, progs: []string{wait + "; exit 0", "enter 0; notify 0; exit 0", "interrupt 0"}, told: []string{"end ok", "end intr", "wake ok", "leave intr"}, never: []string{"begin intr"}, first: []int{0}},
		{c: small(3, 3, 0), ticks: 1, deflates: 1, progs: []string{waitFor, waitFor, "enter 0; notify 0; exit 0"}, told: []string{"end ok", "end time", "wake ok"}, first: []int{1, 0}},
		{c: small(3, 3, 0), ticks: 1, progs: []string{waitFor, "enter 0; all 0; exit 0", "enter 0; exit 0"}, told: []string{"end ok", "end time", "wake ok"}, first: []int{0}},
	})
}
