package core_test

import (
	"math"
	"reflect"
	"slices"
	"strings"
	"testing"

	"futtock/api"
	"futtock/core"
	"futtock/klass"
)

// greatest is the configuration whose numbers are all the greatest ones.
func greatest() api.Config {
	return api.Config{Threads: 8, Objects: 8, Classes: 4, Slots: 16, Spin: 8, Count: 60, Bias: 255, Rebias: 100, Revoke: 100, Seed: math.MaxUint64}
}

// number is one of a configuration's, and from where to where it may be.
type number struct {
	name        string
	of          func(c *api.Config) *int
	least, most int
}

// numbersOf are a configuration's numbers; the last two are looked at apart.
func numbersOf() []number {
	return []number{
		{"Threads", func(c *api.Config) *int { return &c.Threads }, 1, 8},
		{"Objects", func(c *api.Config) *int { return &c.Objects }, 1, 8},
		{"Classes", func(c *api.Config) *int { return &c.Classes }, 1, 4},
		{"Slots", func(c *api.Config) *int { return &c.Slots }, 1, 16},
		{"Spin", func(c *api.Config) *int { return &c.Spin }, 0, 8},
		{"Count", func(c *api.Config) *int { return &c.Count }, 1, 60},
		{"Rebias", func(c *api.Config) *int { return &c.Rebias }, 1, 100},
		{"Revoke", func(c *api.Config) *int { return &c.Revoke }, 1, 100},
	}
}

// may tells if May, and New of as many programs as threads, do not tell so.
func may(t *testing.T, c api.Config, want bool) {
	t.Helper()
	if got := core.May(c); got != want {
		t.Errorf("May of %+v is %v", c, got)
	}
	m, err := core.New(c, make([][]api.Op, max(0, min(c.Threads, 100))))
	if want && (m == nil || err != api.OK) || !want && (m != nil || err != api.ErrArg) {
		t.Errorf("New of %+v is %v, %d", c, m, err)
	}
}

// P21.1: each number of a configuration, at its least and its greatest one, and beyond.
func TestMay(t *testing.T) {
	may(t, least(1), true)
	may(t, greatest(), true)
	may(t, api.Config{}, false)
	for _, base := range []api.Config{least(1), least(8), greatest()} {
		base.Rebias = 1
		for _, x := range numbersOf() {
			for _, n := range []int{x.least - 1, x.least, x.least + 1, x.most - 1, x.most, x.most + 1, -1, -x.most, x.most + 256, 1 << 32, 1<<32 + x.least, math.MaxInt, math.MinInt} {
				c := base
				if *x.of(&c) = n; x.name == "Rebias" {
					c.Revoke = 100
				}
				may(t, c, n >= x.least && n <= x.most)
			}
		}
	}
}

// P21.1: Revoke is at least Rebias, whatever both are; Bias and Seed may be anything.
func TestMayPolicy(t *testing.T) {
	for rebias := -1; rebias <= 102; rebias++ {
		for revoke := -1; revoke <= 102; revoke++ {
			c := least(2)
			c.Rebias, c.Revoke = rebias, revoke
			if got := core.May(c); got != (rebias >= 1 && revoke >= rebias && revoke <= 100) {
				t.Errorf("May of Rebias %d, Revoke %d is %v", rebias, revoke, got)
			}
		}
	}
	for bias := range 256 {
		for _, seed := range []uint64{0, 1, 88172645463325252, 1 << 63, math.MaxUint64} {
			c := least(2)
			c.Bias, c.Seed = uint8(bias), seed
			may(t, c, true)
		}
	}
}

// news tells if New does not tell an error; with one there is no machine.
func news(t *testing.T, c api.Config, progs [][]api.Op, want api.Errno) {
	t.Helper()
	if m, err := core.New(c, progs); err != want || (m == nil) != (want != api.OK) {
		t.Errorf("New of %+v, %v is %v, %d, not %d", c, progs, m, err, want)
	}
}

// P21.1: ErrArg, if there are not as many programs as threads, ahead of ErrForm.
func TestNewPrograms(t *testing.T) {
	wrong := []api.Op{{Kind: 10}}
	for threads := 1; threads <= 8; threads++ {
		for many := range 12 {
			want := api.OK
			if many != threads {
				want = api.ErrArg
			}
			news(t, least(threads), make([][]api.Op, many), want)
			l := make([][]api.Op, many)
			for i := range l {
				l[i] = wrong
			}
			if many == threads {
				want = api.ErrForm
			}
			news(t, least(threads), l, want)
		}
		news(t, least(threads), nil, api.ErrArg)
	}
	bad := least(1)
	bad.Count = 0
	news(t, bad, [][]api.Op{wrong}, api.ErrArg)
	news(t, bad, [][]api.Op{make([]api.Op, 65)}, api.ErrArg)
	news(t, api.Config{}, nil, api.ErrArg)
}

// P21.1: programs of 0, 64 and 65 operations, whichever of them it is.
func TestNewLongPrograms(t *testing.T) {
	enters := slices.Repeat([]api.Op{{Kind: 7}}, 66)
	for at := range 3 {
		for many, want := range map[int]api.Errno{0: api.OK, 1: api.OK, 63: api.OK, 64: api.OK, 65: api.ErrForm, 66: api.ErrForm} {
			l := [][]api.Op{nil, {}, enters[:5]}
			l[at] = enters[:many]
			news(t, least(3), l, want)
		}
	}
	m := made(t, least(1), strings.Repeat("hash 0; ", 63)+"hash 0")
	exhaust(m, 0)
	if !m.Ended(0) || len(m.Log()) != 192 {
		t.Errorf("64 operations ended: %v, with %d entries", m.Ended(0), len(m.Log()))
	}
}

// P21.1: operations that may be, and that may not, by layer 16 for its threads and
// objects, wherever they stand.
func TestNewOperations(t *testing.T) {
	c := with(least(3), func(c *api.Config) { c.Objects = 2 })
	for _, x := range []struct {
		o    api.Op
		want api.Errno
	}{
		{api.Op{Kind: 1, Obj: 1}, api.OK}, {api.Op{Kind: 1, Obj: 2}, api.ErrForm}, {api.Op{Kind: 1, Obj: -1}, api.ErrForm}, {api.Op{Kind: 1, Arg: 1}, api.ErrForm},
		{api.Op{Kind: 0}, api.ErrForm}, {api.Op{Kind: 10}, api.ErrForm}, {api.Op{Kind: -1}, api.ErrForm}, {api.Op{Kind: math.MaxInt}, api.ErrForm},
		{api.Op{Kind: 2, Obj: 1}, api.OK}, {api.Op{Kind: 2, Obj: 7}, api.ErrForm}, {api.Op{Kind: 3, Obj: 1}, api.OK}, {api.Op{Kind: 3, Arg: -1}, api.ErrForm},
		{api.Op{Kind: 4, Arg: 1000000}, api.OK}, {api.Op{Kind: 4, Arg: 1000001}, api.ErrForm}, {api.Op{Kind: 4, Arg: -1}, api.ErrForm}, {api.Op{Kind: 4, Obj: 2}, api.ErrForm},
		{api.Op{Kind: 5, Obj: 1}, api.OK}, {api.Op{Kind: 5, Arg: 1}, api.ErrForm}, {api.Op{Kind: 6}, api.OK}, {api.Op{Kind: 6, Obj: 2}, api.ErrForm},
		{api.Op{Kind: 7, Obj: 1}, api.OK}, {api.Op{Kind: 7, Arg: 2}, api.ErrForm}, {api.Op{Kind: 8, Obj: 1}, api.OK}, {api.Op{Kind: 8, Obj: 1 << 32}, api.ErrForm},
		{api.Op{Kind: 9, Arg: 2}, api.OK}, {api.Op{Kind: 9, Arg: 3}, api.ErrForm}, {api.Op{Kind: 9, Arg: -1}, api.ErrForm}, {api.Op{Kind: 9, Obj: 1}, api.ErrForm},
	} {
		for thread := range 3 {
			for _, at := range []int{0, 1, 63} {
				l := [][]api.Op{nil, nil, nil}
				l[thread] = append(slices.Repeat([]api.Op{{Kind: 1}}, at), x.o)
				news(t, c, l, x.want)
			}
		}
	}
}

// isNew tells of what a machine tells that a new one does not.
func isNew(t *testing.T, m *core.Machine, c api.Config) {
	t.Helper()
	if m.Config() != c {
		t.Errorf("Config is %+v, not %+v", m.Config(), c)
	}
	want := make([]uint64, 128)
	for o := range c.Objects {
		want[o] = 1
		if c.Bias>>(o%c.Classes)&1 == 1 {
			want[o] = 5
		}
	}
	var classes []klass.Class
	for i := range c.Classes {
		classes = append(classes, klass.Class{Biased: c.Bias>>i&1 == 1})
		want[8+i] = classes[i].Header()
	}
	for a := range 128 {
		if m.Word(a) != want[a] {
			t.Errorf("the cell %d is %#x, not %#x", a, m.Word(a), want[a])
		}
	}
	for o := range c.Objects {
		if m.Header(o) != want[o] {
			t.Errorf("the header of %d is %#x", o, m.Header(o))
		}
	}
	if !slices.Equal(m.Classes(), classes) {
		t.Errorf("the classes are %v", m.Classes())
	}
	isAtBeginning(t, m, c)
}

// isAtBeginning tells so of all but the words.
func isAtBeginning(t *testing.T, m *core.Machine, c api.Config) {
	t.Helper()
	var all []int
	for thread := range c.Threads {
		all = append(all, thread)
		if m.Ended(thread) || m.Asleep(thread) || m.Flag(thread) {
			t.Errorf("%d ended, sleeps or has a flag", thread)
		}
		for o := range c.Objects {
			if m.Records(thread, o) != 0 {
				t.Errorf("%d has records of %d", thread, o)
			}
		}
	}
	for s := range c.Slots {
		if len(m.Entry(s)) != 0 || len(m.Ring(s)) != 0 {
			t.Errorf("somebody is at the slot %d", s)
		}
	}
	if !slices.Equal(m.Runnable(), all) {
		t.Errorf("Runnable is %v", m.Runnable())
	}
	if len(m.Log()) != 0 || m.Ghost() == nil || m.Ghost().Len() != 0 || m.Broken() || m.Steps() != 0 || m.Most() != 0 {
		t.Errorf("the log is %v, Broken %v, Steps %d, Most %d", m.Log(), m.Broken(), m.Steps(), m.Most())
	}
	if len(m.Pairs()) != 0 || len(m.Used()) != 0 || m.Left() != c.Slots || m.Wanted() || m.Rounds() != 0 || m.Now() != 0 {
		t.Errorf("Pairs %v, Used %v, Left %d, Wanted %v, Rounds %d, Now %d", m.Pairs(), m.Used(), m.Left(), m.Wanted(), m.Rounds(), m.Now())
	}
	if wrong := unsound(m); wrong != "" {
		t.Error(wrong)
	}
}

// P21.1, P21.3: a new machine, of one thread and of eight, of biased classes and of
// others; its threads stand at their beginning, those without operations too.
func TestNew(t *testing.T) {
	for _, c := range []api.Config{least(1), least(8), greatest()} {
		for _, bias := range []uint8{0, 1, 2, 5, 10, 15, 16, 240, 255} {
			for classes := 1; classes <= 4; classes++ {
				for _, prog := range []string{"", "enter 0; exit 0"} {
					c.Bias, c.Classes = bias, classes
					m := made(t, c, slices.Repeat([]string{prog}, c.Threads)...)
					isNew(t, m, c)
				}
			}
		}
	}
}

// P21.1, P21.2: a thread without operations stands at its beginning, and ends by its
// first step, of which nothing is noted.
func TestNoOperations(t *testing.T) {
	m := made(t, least(2), "", "hash 0")
	follows(t, m, `
		0: ended0 true
		0: no
		1: t1 call 0 hash 0
	`)
	if m.Steps() != 2 || m.Most() != 0 {
		t.Errorf("Steps %d, Most %d", m.Steps(), m.Most())
	}
}

// P21.3: Steps counts each step, and nothing else; Most is at most 1, and 1 behind the
// first access.
func TestStepsAndMost(t *testing.T) {
	m := made(t, least(2), "enter 0; exit 0", "enter 0; exit 0")
	steps := 0
	for i := range 100 {
		if m.Pick(i % 2) {
			steps++
		}
		m.Pick(-1)
		m.Tick(1)
		m.Deflate()
		want := int64(1)
		if steps <= 2 {
			want = 0
		}
		if m.Steps() != steps || m.Most() != want {
			t.Fatalf("behind %d steps Steps is %d, Most %d", steps, m.Steps(), m.Most())
		}
	}
}

// R4: programs that are handed in are neither kept nor turned.
func TestProgramsAreNotKept(t *testing.T) {
	l := progs(t, "enter 0; exit 0", "hash 0")
	again := progs(t, "enter 0; exit 0", "hash 0")
	m, _ := core.New(least(2), l)
	other, _ := core.New(least(2), again)
	l[0][0], l[0][1], l[1] = api.Op{Kind: 5}, api.Op{Kind: 99}, nil
	for i := range 40 {
		if m.Pick(i%2) != other.Pick(i%2) {
			t.Fatal("a program that was handed in was kept")
		}
	}
	if !reflect.DeepEqual(m.Log(), other.Log()) || !m.Ended(0) || !m.Ended(1) {
		t.Error("a program that was handed in was kept")
	}
	if !reflect.DeepEqual(again, progs(t, "enter 0; exit 0", "hash 0")) {
		t.Error("a program that was handed in was turned")
	}
}
