package abst_test

import (
	"crypto/sha256"
	"fmt"
	"reflect"
	"slices"
	"strconv"
	"strings"

	"futtock/abst"
	"futtock/core"
	"futtock/word"
)

// differs is what is wrong with what a machine's words mean, held against the model of
// its log: "", if nothing is.
func differs(m *core.Machine) string {
	meant, all := m.Ghost().Model(), abst.All(m)
	for o, s := range all {
		is, ok := abst.Of(m, o)
		if !ok || text(is) != text(s) {
			return fmt.Sprintf("Of %d is %s, %v, and of All %s", o, text(is), ok, text(s))
		}
		if s.Owner != meant.Owner(o) || s.Count != meant.Count(o) || s.Hash != meant.Hash(o) || !slices.Equal(s.Waiters, meant.Waiters(o)) {
			return fmt.Sprintf("the state of %d is %s, meant is %d x%d %v #%d", o, text(s), meant.Owner(o), meant.Count(o), meant.Waiters(o), meant.Hash(o))
		}
		if !abst.Same(s, abst.Model(m, o)) {
			return fmt.Sprintf("the state of %d is %s, Model %s", o, text(s), text(abst.Model(m, o)))
		}
	}
	if !abst.Agrees(m) || len(all) != m.Config().Objects {
		return "it does not agree"
	}
	return ""
}

// watch is what was seen of machines.
type watch struct {
	// Of each kind of header and what its object's state had how often it was seen, and
	// of each two that came one of the other.
	states, turns map[string]int
}

func newWatch() watch {
	return watch{states: map[string]int{}, turns: map[string]int{}}
}

// move does a move ("d" a Deflate, "+1" a Tick, else a Pick), and tells what is wrong
// with what it turned: more than the state of one object by a Pick, any by another move
// or by what was asked for, a hash that was there; or with what is there behind it.
func (w watch) move(m *core.Machine, move string) string {
	ahead := abst.All(m)
	kinds := kindsOf(m)
	isPick := move != "d" && move != "+1"
	// What was asked for is done ahead of a step, whoever is picked: every other time by
	// itself, else by the Pick that does the step.
	if isPick && m.Wanted() && m.Steps()%2 == 0 {
		m.Pick(-1)
		if l := turned(ahead, abst.All(m)); len(l) > 0 {
			return fmt.Sprintf("what was asked for turns %v", l)
		}
		if wrong := differs(m); wrong != "" {
			return "behind what was asked for: " + wrong
		}
	}
	plainMove(m, move)
	behind := abst.All(m)
	if l := turned(ahead, behind); len(l) > 1 || len(l) > 0 && !isPick {
		return fmt.Sprintf("it turns %v", l)
	}
	for o, s := range ahead {
		if s.Hash != 0 && behind[o].Hash != s.Hash {
			return fmt.Sprintf("the hash of %d was %d, and is %d", o, s.Hash, behind[o].Hash)
		}
	}
	w.see(m, kinds, behind)
	return differs(m)
}

// plainMove does a move, and looks at nothing.
func plainMove(m *core.Machine, move string) {
	switch move {
	case "d":
		m.Deflate()
	case "+1":
		m.Tick(1)
	default:
		n, _ := strconv.Atoi(move)
		m.Pick(n)
	}
}

// turned are the objects whose states are other ones.
func turned(was, is []abst.State) []int {
	var l []int
	for o := range is {
		if text(was[o]) != text(is[o]) {
			l = append(l, o)
		}
	}
	return l
}

// kindsOf are the kinds of all headers.
func kindsOf(m *core.Machine) []int {
	var l []int
	for o := range m.Config().Objects {
		l = append(l, word.Kind(m.Header(o)))
	}
	return l
}

// names are the kinds' names.
var names = []string{"none", "thin", "neutral", "fat", "biased", "0"}

// see notes what is there behind a move.
func (w watch) see(m *core.Machine, ahead []int, states []abst.State) {
	for o, kind := range kindsOf(m) {
		s := states[o]
		name := names[kind]
		add := func(holds bool, text string) {
			if holds {
				name += " " + text
			}
		}
		hashed := s.Hash > 0
		add(s.Owner >= 0, "owned")
		add(len(s.Waiters) > 0, "waited")
		add(hashed, "hashed")
		w.states[name]++
		if kind == word.Fat {
			h, _ := word.Read(m.Header(o))
			if len(m.Ring(int(h.Slot))) > len(s.Waiters) {
				w.states["past"]++ // one in the ring who does not wait
			}
		}
		if kind != ahead[o] {
			name = names[ahead[o]] + " to " + names[kind]
			add(hashed, "hashed")
			w.turns[name]++
		}
	}
}

// lacks are those of some names, which stand apart by commas, that were never seen.
func (w watch) lacks(seen map[string]int, those string) []string {
	var l []string
	for _, name := range strings.Split(those, ",") {
		if seen[strings.TrimSpace(name)] == 0 {
			l = append(l, strings.TrimSpace(name))
		}
	}
	return l
}

// uncounted are those parts of a machine, and of what it is made of, by which nothing
// goes: its log, of which the model is looked at, and counts.
var uncounted = []string{"Machine.log", "Machine.steps", "Machine.most", "Memory.accesses", "Meet.rounds", "Source.told"}

// fingerprint is of all that a machine goes by, whatever that is: two of one fingerprint go on
// alike.
func fingerprint(m *core.Machine) [sha256.Size]byte {
	return sha256.Sum256(written(nil, reflect.ValueOf(m)))
}

// written is a text with a value behind it.
func written(b []byte, v reflect.Value) []byte {
	switch v.Kind() {
	case reflect.Pointer:
		if v.IsNil() {
			return append(b, '-')
		}
		return written(append(b, '&'), v.Elem())
	case reflect.Struct:
		for i := range v.NumField() {
			if !slices.Contains(uncounted, v.Type().Name()+"."+v.Type().Field(i).Name) {
				b = written(b, v.Field(i))
			}
		}
		return append(b, ';')
	case reflect.Slice, reflect.Array:
		b = strconv.AppendInt(b, int64(v.Len()), 10)
		for i := range v.Len() {
			b = written(append(b, ','), v.Index(i))
		}
		return b
	case reflect.Map:
		return writtenMap(b, v)
	case reflect.Bool:
		return strconv.AppendBool(append(b, ' '), v.Bool())
	}
	if v.CanInt() {
		return strconv.AppendInt(append(b, ' '), v.Int(), 10)
	}
	// Of a value of any other kind this panics.
	return strconv.AppendUint(append(b, ' '), v.Uint(), 10)
}

// writtenMap is so of a map, by its keys' texts.
func writtenMap(b []byte, v reflect.Value) []byte {
	var l []string
	for each := v.MapRange(); each.Next(); {
		l = append(l, string(written(append(written(nil, each.Key()), ':'), each.Value())))
	}
	slices.Sort(l)
	return append(b, strings.Join(l, "|")...)
}
