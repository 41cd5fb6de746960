package core_test

import (
	"fmt"
	"slices"

	"futtock/api"
	"futtock/core"
	"futtock/ghost"
	"futtock/model"
	"futtock/ring"
	"futtock/word"
)

// unsound is what is wrong with a machine between two steps: "", if nothing is. It
// goes by what the machine tells alone.
func unsound(m *core.Machine) string {
	c := m.Config()
	log := m.Log()
	if n, ok := ghost.Right(c.Threads, c.Objects, c.Count, log); !ok {
		return fmt.Sprintf("the log is right up to %d of %d alone:\n%s", n, len(log), logText(m))
	}
	return unsoundWords(m)
}

// unsoundWords is so of all but the log.
func unsoundWords(m *core.Machine) string {
	if m.Broken() || m.Most() > 1 {
		return fmt.Sprintf("Broken is %v, Most %d", m.Broken(), m.Most())
	}
	meant := m.Ghost().Model()
	for o := range m.Config().Objects {
		if wrong := wrongObject(m, meant, o); wrong != "" {
			return fmt.Sprintf("the object %d: %s\n%s", o, wrong, logText(m))
		}
	}
	for t := range m.Config().Threads {
		if m.Flag(t) != meant.Flag(t) {
			return fmt.Sprintf("the flag of %d is %v, not %v", t, m.Flag(t), meant.Flag(t))
		}
		if m.Ended(t) && m.Asleep(t) {
			return fmt.Sprintf("%d ended, and is asleep", t)
		}
	}
	return wrongSlots(m)
}

// wrongObject is what is wrong with what a machine's words tell of an object, held
// against the model of its log.
func wrongObject(m *core.Machine, meant *model.Model, o int) string {
	owner := -1
	for t := range m.Config().Threads {
		n := m.Records(t, o)
		switch {
		case n > m.Config().Count:
			return fmt.Sprintf("%d has %d records", t, n)
		case n > 0 && owner >= 0:
			return fmt.Sprintf("%d and %d have records", owner, t)
		case n > 0:
			owner = t
		}
	}
	if owner != meant.Owner(o) {
		return fmt.Sprintf("%d has records, %d should", owner, meant.Owner(o))
	}
	if owner >= 0 && m.Records(owner, o) != meant.Count(o) {
		return fmt.Sprintf("%d has %d records, not %d", owner, m.Records(owner, o), meant.Count(o))
	}
	told, hash, waiters, wrong := told(m, o, owner)
	switch {
	case wrong != "":
		return wrong
	case told != owner:
		return fmt.Sprintf("its words tell the owner %d, not %d", told, owner)
	case hash != meant.Hash(o):
		return fmt.Sprintf("its words tell the hash %d, not %d", hash, meant.Hash(o))
	case !slices.Equal(waiters, meant.Waiters(o)):
		return fmt.Sprintf("its words tell that %v wait, not %v", waiters, meant.Waiters(o))
	}
	return ""
}

// told is what an object's words tell: its owner, its hash, who waits, and what is
// wrong with them. Of a header that is 0 they do not tell who owns it.
func told(m *core.Machine, o, owner int) (int, int, []int, string) {
	w := m.Word(o)
	h, err := word.Read(w)
	if err != api.OK || m.Header(o) != w {
		return -1, 0, nil, fmt.Sprintf("its header is %#x, %#x", w, m.Header(o))
	}
	hashOf := func(a int) int {
		x, _ := word.Read(m.Word(a))
		return int(x.Hash)
	}
	switch h.Kind {
	case word.Neutral:
		return -1, int(h.Hash), nil, ""
	case word.Thin:
		u := int(h.Owner) - 1
		return u, hashOf(savedAt(u, o)), nil, ""
	case word.Inflating:
		if owner < 0 {
			return -1, 0, nil, "its header is 0, and nobody owns it"
		}
		return owner, hashOf(savedAt(owner, o)), nil, ""
	case word.Biased:
		u := int(h.Owner) - 1
		if u >= 0 && m.Records(u, o) == 0 {
			u = -1
		}
		return u, 0, nil, ""
	}
	s := int(h.Slot)
	return int(m.Word(lockCell+s)&0xffff) - 1, hashOf(dispCell + s), waitersAt(m, o, s), ""
}

// waitersAt are those who wait at the object of a slot, rising.
func waitersAt(m *core.Machine, o, slot int) []int {
	var l []int
	for _, w := range m.Ring(slot) {
		if m.Word(stateCell+w.Thread) == ring.Waiting && m.Records(w.Thread, o) == 0 {
			l = append(l, w.Thread)
		}
	}
	slices.Sort(l)
	return l
}

// wrongSlots is what is wrong with a machine's slots and pairs, by P21.6.
func wrongSlots(m *core.Machine) string {
	c := m.Config()
	used, pairs := m.Used(), m.Pairs()
	if len(used) > c.Slots || len(used)+m.Left() != c.Slots || len(used) != len(pairs) {
		return fmt.Sprintf("of %d slots %v are in use, %d are left, pairs are %v", c.Slots, used, m.Left(), pairs)
	}
	if !slices.IsSorted(used) {
		return fmt.Sprintf("in use are %v", used)
	}
	fats := 0
	for i, p := range pairs {
		h, _ := word.Read(m.Header(p.Obj))
		if p.Slot != used[i] || h.Kind != word.Fat || int(h.Slot) != p.Slot || p.Thread < 0 || p.Thread >= c.Threads {
			return fmt.Sprintf("in use are %v, by %v, and the header of %d is %s", used, pairs, p.Obj, headerText(m.Header(p.Obj)))
		}
	}
	for o := range c.Objects {
		if word.Kind(m.Header(o)) == word.Fat {
			fats++
		}
	}
	if fats != len(used) {
		return fmt.Sprintf("%d headers are Fat, and %v are in use", fats, used)
	}
	for s := range c.Slots {
		if !slices.Contains(used, s) && len(m.Entry(s))+len(m.Ring(s)) > 0 {
			return fmt.Sprintf("the slot %d is not in use, and has %v, %v", s, m.Entry(s), m.Ring(s))
		}
	}
	return ""
}
