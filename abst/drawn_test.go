package abst_test

import (
	"fmt"
	"slices"
	"testing"

	"futtock/api"
	"futtock/core"
	"futtock/op"
)

// numbers are of no pattern, and the same ones each time.
type numbers uint64

func (n *numbers) below(end int) int {
	*n = *n*6364136223846793005 + 1442695040888963407
	return int(uint64(*n) >> 33 % uint64(end))
}

// one is one of some numbers.
func (n *numbers) one(l ...int) int { return l[n.below(len(l))] }

// config is a drawn configuration; few objects and slots, so that threads meet.
func (n *numbers) config() api.Config {
	rebias := n.one(1, 1, 2, 3, 100)
	return api.Config{
		Threads: n.one(1, 2, 3, 4, 5, 6, 7, 8, 8),
		Objects: n.one(1, 1, 2, 2, 3, 8),
		Classes: n.one(1, 1, 2, 3, 4),
		Slots:   n.one(1, 2, 3, 16),
		Spin:    n.one(0, 0, 1, 3, 8),
		Count:   n.one(1, 2, 3, 60),
		Bias:    uint8(n.one(0, 0, 1, 2, 5, 255, 255)),
		Rebias:  rebias,
		Revoke:  min(100, rebias*n.one(1, 2, 5, 100)),
		Seed:    uint64(n.below(1 << 20)),
	}
}

// programs are drawn ones, of each thread of a configuration: of any operations, or
// such as let go what they enter, and so go on.
func (n *numbers) programs(c api.Config) [][]api.Op {
	progs := make([][]api.Op, c.Threads)
	goOn := n.below(2) == 0
	for t := range progs {
		for many := n.one(0, 4, 9, 20, 40); len(progs[t]) < many; {
			if goOn {
				progs[t] = append(progs[t], n.visit(c)...)
			} else {
				progs[t] = append(progs[t], n.operation(c))
			}
		}
	}
	return progs
}

// visit are drawn operations that enter an object, do something there, wait for some
// time perhaps, and leave it.
func (n *numbers) visit(c api.Config) []api.Op {
	obj := n.below(c.Objects)
	l := []api.Op{{Kind: op.Enter, Obj: obj}}
	for range n.below(4) {
		o := n.operation(c)
		switch o.Kind {
		case op.Wait:
			o.Arg = max(o.Arg, 1)
		case op.Enter, op.Try, op.Exit:
			o.Kind = op.Hash
		}
		if o.Kind != op.Interrupt {
			o.Obj = obj
		}
		l = append(l, o)
	}
	return append(l, api.Op{Kind: op.Exit, Obj: obj})
}

// operation is a drawn one.
func (n *numbers) operation(c api.Config) api.Op {
	o := api.Op{Kind: n.one(1, 1, 1, 1, 2, 2, 3, 3, 3, 3, 4, 4, 4, 5, 5, 6, 7, 7, 8, 9), Obj: n.below(c.Objects)}
	switch o.Kind {
	case op.Wait:
		o.Arg = n.one(0, 1, 1, 2, 5, 30)
	case op.Interrupt:
		o.Obj, o.Arg = 0, n.below(c.Threads)
	}
	return o
}

// moves are drawn next ones: a thread that may go on some times, one that may not, a
// Tick, a Deflate.
func (n *numbers) moves(m *core.Machine) []string {
	may := m.Runnable()
	switch k := n.below(40); {
	case k < 2:
		return []string{"d"}
	case k < 5 || len(may) == 0:
		return []string{"+1"}
	case k == 5:
		return []string{fmt.Sprint(n.below(10) - 1)}
	}
	return slices.Repeat([]string{fmt.Sprint(may[n.below(len(may))])}, n.one(1, 1, 1, 2, 5, 12))
}

// P22.3 to P22.5: drawn machines of up to eight threads, drawn programs of any
// operations and drawn moves: at each step the words mean what the model has, a Pick
// turns the state of one object at most, all else of none, and no hash is turned.
func TestDrawn(t *testing.T) {
	for part := range 8 {
		t.Run(fmt.Sprint(part), func(t *testing.T) {
			t.Parallel()
			n, w := numbers(part), newWatch()
			for range 200 {
				c := n.config()
				progs := n.programs(c)
				m, err := core.New(c, progs)
				if err != api.OK {
					t.Fatal(err)
				}
				for range n.one(20, 100, 300, 600) {
					for _, move := range n.moves(m) {
						if wrong := w.move(m, move); wrong != "" {
							t.Fatalf("%+v, %v, behind %d steps, %s: %s\n%s", c, progs, m.Steps(), move, wrong, logText(m))
						}
					}
				}
			}
			lacks := w.lacks(w.states, "neutral,neutral hashed,thin owned,thin owned hashed,biased,biased owned,0 owned,0 owned hashed,"+
				"fat,fat owned,fat waited,fat hashed,fat owned waited,fat owned hashed,fat waited hashed,fat owned waited hashed,past")
			lacks = append(lacks, w.lacks(w.turns, "neutral to thin,neutral to thin hashed,thin to neutral,thin to neutral hashed,thin to 0,thin to 0 hashed,"+
				"0 to fat,0 to fat hashed,fat to neutral,fat to neutral hashed,biased to neutral,biased to thin")...)
			if len(lacks) > 0 {
				t.Errorf("never was seen %q, but %v, %v", lacks, w.states, w.turns)
			}
			t.Logf("%v, %v", w.states, w.turns)
		})
	}
}
