package stat

import "futtock/ghost"

// calls are, by threads, the places of the Calls that no Return of theirs is behind yet.
type calls map[int]int

// goOn goes on by the entry at a place: it is the span of the operation that returns by
// it, 0 if none does.
func (c calls) goOn(at int, e ghost.Entry) int {
	switch e.Kind {
	case ghost.Call:
		c[e.Thread] = at
	case ghost.Return:
		from, ok := c[e.Thread]
		if ok {
			delete(c, e.Thread)
			return at - from + 1
		}
	}
	return 0
}
