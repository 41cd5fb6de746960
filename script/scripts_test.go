package script_test

import (
	"slices"
	"strconv"
	"strings"
	"testing"

	"futtock/api"
	"futtock/op"
	"futtock/script"
)

// The bytes that stand for what is no Pick, as the document numbers them.
const (
	mark    = 77
	tick    = 100
	deflate = 101
)

// head is how many bytes stand ahead of the programs.
const head = 18

// prog is the program of a text.
func prog(t testing.TB, text string) []api.Op {
	t.Helper()
	l, err := op.Parse(text)
	if err != api.OK {
		t.Fatalf("%q is no program: %d", text, err)
	}
	return l
}

// progs are the programs of texts.
func progs(t testing.TB, texts ...string) [][]api.Op {
	t.Helper()
	var l [][]api.Op
	for _, text := range texts {
		l = append(l, prog(t, text))
	}
	return l
}

// turns are out of a text of words: "3" picks 3, "t5" is a Tick of 5, "d" a Deflate.
func turns(t testing.TB, text string) []script.Turn {
	t.Helper()
	var l []script.Turn
	for word := range strings.FieldsSeq(text) {
		digits, isTick := strings.CutPrefix(word, "t")
		n, err := strconv.Atoi(digits)
		switch {
		case word == "d":
			l = append(l, script.Turn{Kind: 3})
		case err != nil:
			t.Fatalf("%q is no turn", word)
		case isTick:
			l = append(l, script.Turn{Kind: 2, N: n})
		default:
			l = append(l, script.Turn{Kind: 1, N: n})
		}
	}
	return l
}

// least is a configuration whose other numbers are all the least ones.
func least(threads, objects int) api.Config {
	return api.Config{Threads: threads, Objects: objects, Classes: 1, Slots: 1, Count: 1, Rebias: 1, Revoke: 1}
}

// empty is a script of so many threads, whose programs are empty.
func empty(threads int) script.Script {
	return script.Script{Config: least(threads, 8), Progs: make([][]api.Op, threads)}
}

// copied is another script that is the same.
func copied(s script.Script) script.Script {
	s.Turns = slices.Clone(s.Turns)
	s.Progs = slices.Clone(s.Progs)
	for i := range s.Progs {
		s.Progs[i] = slices.Clone(s.Progs[i])
	}
	return s
}

// with is a copy of a script that is turned.
func with(s script.Script, turn func(s *script.Script)) script.Script {
	s = copied(s)
	turn(&s)
	return s
}

// like tells whether two scripts are the same, number by number.
func like(a, b script.Script) bool {
	if a.Config != b.Config || len(a.Progs) != len(b.Progs) || len(a.Turns) != len(b.Turns) {
		return false
	}
	for i := range a.Progs {
		if !slices.Equal(a.Progs[i], b.Progs[i]) {
			return false
		}
	}
	for i := range a.Turns {
		if a.Turns[i] != b.Turns[i] {
			return false
		}
	}
	return true
}

// isZero tells whether a script is the zero one.
func isZero(s script.Script) bool {
	return s.Config == api.Config{} && len(s.Progs) == 0 && len(s.Turns) == 0
}

// refuses tells if May and Lay of a script do not tell an error, and nothing else, or
// turn it.
func refuses(t testing.TB, s script.Script, want api.Errno) {
	t.Helper()
	was := copied(s)
	for range 2 {
		if err := script.May(s); err != want {
			t.Fatalf("May is %d, not %d, of %s", err, want, brief(s))
		}
		if b, err := script.Lay(s); len(b) != 0 || err != want {
			t.Fatalf("Lay is %d bytes, %d, not %d, of %s", len(b), err, want, brief(s))
		}
	}
	if !like(s, was) {
		t.Fatalf("May or Lay turned %s", brief(was))
	}
}

// lays tells if a script may not be, is laid as other bytes, or these are not read as it.
func lays(t testing.TB, s script.Script, want []byte) {
	t.Helper()
	was := copied(s)
	for range 2 {
		if err := script.May(s); err != api.OK {
			t.Fatalf("May is %d of %s", err, brief(s))
		}
		b, err := script.Lay(s)
		if !slices.Equal(b, want) || err != api.OK {
			t.Fatalf("Lay is %s, %d, not %s, of %s", few(b), err, few(want), brief(s))
		}
		clear(b)
	}
	if !like(s, was) {
		t.Fatalf("May or Lay turned %s", brief(was))
	}
	reads(t, want, s)
}

// reads tells if bytes are not read as a script that may be and that is laid as these
// bytes, or are turned.
func reads(t testing.TB, b []byte, want script.Script) {
	t.Helper()
	was := slices.Clone(b)
	for range 2 {
		s, err := script.Read(b)
		if !like(s, want) || err != api.OK {
			t.Fatalf("Read(%s) is %s, %d, not %s", few(b), brief(s), err, brief(want))
		}
		if !script.Same(s, want) || !script.Same(want, s) {
			t.Fatalf("Same of what was read and %s is false", brief(want))
		}
		if err := script.May(s); err != api.OK {
			t.Fatalf("May of what was read is %d: %s", err, brief(s))
		}
		if again, err := script.Lay(s); !slices.Equal(again, b) || err != api.OK {
			t.Fatalf("Lay of what was read is %s, %d, not %s", few(again), err, few(b))
		}
		spoil(s)
	}
	if !slices.Equal(b, was) {
		t.Fatalf("Read turned %s", few(was))
	}
}

// refusesBytes tells if Read of bytes does not tell an error, and the zero script, or
// turns them.
func refusesBytes(t testing.TB, b []byte, want api.Errno) {
	t.Helper()
	was := slices.Clone(b)
	for range 2 {
		if s, err := script.Read(b); !isZero(s) || err != want {
			t.Fatalf("Read(%s) is %s, %d, not %d", few(b), brief(s), err, want)
		}
	}
	if !slices.Equal(b, was) {
		t.Fatalf("Read turned %s", few(was))
	}
}

// spoil writes over all that a script's lists hold.
func spoil(s script.Script) {
	for _, l := range s.Progs {
		for i := range l {
			l[i] = api.Op{Kind: 99, Obj: 99, Arg: 99}
		}
		_ = append(l, api.Op{Kind: 98})
	}
	for i := range s.Progs {
		s.Progs[i] = nil
	}
	for i := range s.Turns {
		s.Turns[i] = script.Turn{Kind: 99, N: 99}
	}
	_ = append(s.Turns, script.Turn{Kind: 98})
}
