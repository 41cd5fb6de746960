package abst

import "futtock/core"

// Meaning is what a header means as an object's: also one that no machine has.
func Meaning(m *core.Machine, obj int, header uint64) (State, bool) {
	return meaning(m, obj, header)
}
