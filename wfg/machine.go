package wfg

import (
	"slices"

	"futtock/core"
)

// nobody stands for an owner where there is none.
const nobody = -1

// Of is a machine's graph.
func Of(m *core.Machine) Graph {
	var g Graph
	for t := range m.Config().Threads {
		if owner := waitsFor(m, t); owner != nobody {
			g, _ = g.Add(t, owner)
		}
	}
	return g
}

// Stuck are the threads that never go on.
func Stuck(m *core.Machine) []int {
	g := Of(m)
	inRing := func(n int) bool { return g.reach(n)&bit(n) != 0 }
	var stuck []int
	for t := range m.Config().Threads {
		if slices.ContainsFunc(g.Reach(t), inRing) {
			stuck = append(stuck, t)
		}
	}
	return stuck
}

// waitsFor is the thread that owns what another one sleeps for to enter it, or nobody.
func waitsFor(m *core.Machine, t int) int {
	if !m.Asleep(t) {
		return nobody
	}
	// None sleeps but in an Enter or a Wait; who is in that still sleeps to be told, and
	// wants to enter nothing yet.
	o, _ := m.Ghost().Open(t)
	if slices.Contains(m.Ghost().Model().Waiters(o.Obj), t) {
		return nobody
	}
	return otherOwner(m, t, o.Obj)
}

// otherOwner is the thread, beside one, that has records of an object, or nobody.
func otherOwner(m *core.Machine, t, obj int) int {
	for other := range m.Config().Threads {
		if other != t && m.Records(other, obj) > 0 {
			return other
		}
	}
	return nobody
}
