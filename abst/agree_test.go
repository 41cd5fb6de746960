package abst_test

import (
	"fmt"
	"testing"

	"futtock/abst"
	"futtock/api"
	"futtock/core"
	"futtock/ghost"
	"futtock/model"
	"futtock/op"
)

// adds adds entries to a machine's log that are not the machine's: a thread's next
// operation, and commits of it.
func adds(t *testing.T, m *core.Machine, thread, number int, o api.Op, events ...model.Event) {
	t.Helper()
	entries := []ghost.Entry{{Kind: ghost.Call, Thread: thread, Number: number, Op: o}}
	for _, e := range events {
		entries = append(entries, ghost.Entry{Kind: ghost.Commit, Thread: thread, Event: e})
	}
	for _, e := range entries {
		if err := m.Ghost().Add(e); err != api.OK {
			t.Fatalf("the log does not take %+v: %d", e, err)
		}
	}
}

// P22.2: Model is what the log's model has, and Agrees is false, where that is another
// state than the words mean: another owner, count, hash, other waiters, each alone.
func TestLogThatIsTurned(t *testing.T) {
	for _, x := range []struct {
		name      string
		thread    int
		o         api.Op
		events    []model.Event
		of, meant string
		agrees    bool
		ahead     string
	}{
		{"a call alone", 1, api.Op{Kind: op.Enter}, nil,
			"-1 x0 [] #0", "-1 x0 [] #0", true, ""},
		{"what turns no state", 1, api.Op{Kind: op.Holds}, []model.Event{{Kind: model.Holds, Thread: 1}},
			"-1 x0 [] #0", "-1 x0 [] #0", true, ""},
		{"what turns a flag alone", 1, api.Op{Kind: op.Interrupt, Arg: 2}, []model.Event{{Kind: model.Interrupt, Thread: 1, Arg: 2}},
			"-1 x0 [] #0", "-1 x0 [] #0", true, ""},
		{"an owner and its count", 1, api.Op{Kind: op.Enter}, []model.Event{{Kind: model.Enter, Thread: 1}},
			"-1 x0 [] #0", "1 x1 [] #0", false, ""},
		{"so of one that was owned", 0, api.Op{Kind: op.Exit}, []model.Event{{Kind: model.Exit}},
			"0 x1 [] #0", "-1 x0 [] #0", false, "0<0"},
		{"a count", 0, api.Op{Kind: op.Enter}, []model.Event{{Kind: model.Enter}},
			"0 x1 [] #0", "0 x2 [] #0", false, "0<0"},
		{"a hash", 1, api.Op{Kind: op.Hash}, []model.Event{{Kind: model.Hash, Thread: 1, Arg: 6}},
			"-1 x0 [] #0", "-1 x0 [] #6", false, ""},
		{"so of one that is owned", 1, api.Op{Kind: op.Hash}, []model.Event{{Kind: model.Hash, Thread: 1, Arg: mostHash}},
			"0 x1 [] #0", "0 x1 [] #2147483647", false, "0<0"},
		{"who waits", 1, api.Op{Kind: op.All}, []model.Event{{Kind: model.Wake, Thread: 1, Arg: 2}},
			"1 x1 [0 2] #0", "1 x1 [0] #0", false, "2! 0! 1<0"},
		{"so of all", 1, api.Op{Kind: op.All}, []model.Event{{Kind: model.Wake, Thread: 1, Arg: 2}, {Kind: model.Wake, Thread: 1, Arg: 0}},
			"1 x1 [0 2] #0", "1 x1 [] #0", false, "2! 0! 1<0"},
		{"who owns and who waits", 1, api.Op{Kind: op.Wait}, []model.Event{{Kind: model.Begin, Thread: 1}},
			"1 x1 [0 2] #0", "-1 x0 [0 1 2] #0", false, "2! 0! 1<0"},
	} {
		for obj := range 8 {
			at := func(prog string) string { return fmt.Sprintf(prog, obj) }
			m := made(t, greatest(), at("enter %[1]d; wait %[1]d"), at("enter %d; exit 0"), at("enter %[1]d; wait %[1]d"))
			does(t, m, x.ahead)
			if !abst.Agrees(m) {
				t.Fatalf("%s of %d: it does not agree ahead", x.name, obj)
			}
			number := 0
			if has(m, ghost.Return, x.thread, 0) {
				number = 1
			}
			o := x.o
			var events []model.Event
			for _, e := range x.events {
				if e.Kind != model.Interrupt {
					e.Obj = obj
				}
				events = append(events, e)
			}
			if o.Kind != op.Interrupt {
				o.Obj = obj
			}
			adds(t, m, x.thread, number, o, events...)
			s, ok := abst.Of(m, obj)
			if got := text(s); got != x.of || !ok {
				t.Errorf("%s: Of %d is %s, not %s", x.name, obj, got, x.of)
			}
			if got := text(abst.Model(m, obj)); got != x.meant {
				t.Errorf("%s: Model of %d is %s, not %s", x.name, obj, got, x.meant)
			}
			if abst.Agrees(m) != x.agrees || abst.Same(s, abst.Model(m, obj)) != x.agrees {
				t.Errorf("%s of %d: Agrees is %v", x.name, obj, abst.Agrees(m))
			}
		}
	}
}

// P22.2: what is turned back in the log agrees again.
func TestLogThatIsTurnedBack(t *testing.T) {
	m := made(t, least(2), "hash 0", "")
	adds(t, m, 1, 0, api.Op{Kind: op.Enter}, model.Event{Kind: model.Enter, Thread: 1})
	if abst.Agrees(m) {
		t.Error("it agrees, and just the log has an owner")
	}
	if err := m.Ghost().Add(ghost.Entry{Kind: ghost.Return, Thread: 1}); err != api.OK {
		t.Fatal(err)
	}
	adds(t, m, 1, 1, api.Op{Kind: op.Exit}, model.Event{Kind: model.Exit, Thread: 1})
	if !abst.Agrees(m) {
		t.Error("it does not agree, and the log has what the words mean")
	}
}

// P22.2: Model goes by the log, Of by the words: behind steps of a machine whose log
// refused them.
func TestMachineWhoseLogRefuses(t *testing.T) {
	m := made(t, least(2), "enter 0; enter 0", "")
	adds(t, m, 0, 0, api.Op{Kind: op.Hash}, model.Event{Kind: model.Hash, Arg: 6})
	does(t, m, "0!")
	s, ok := abst.Of(m, 0)
	if meant := abst.Model(m, 0); text(s) != "0 x2 [] #0" || !ok || text(meant) != "-1 x0 [] #6" || abst.Agrees(m) || !m.Broken() {
		t.Errorf("Of is %s, Model %s, Agrees %v", text(s), text(meant), abst.Agrees(m))
	}
}
