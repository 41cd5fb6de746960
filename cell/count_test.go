package cell

import (
	"math"
	"testing"
)

// P3.1, R2: the count stays at its end, and accesses do what they did. It
// can't be brought there from outside.
func TestCountStaysAtItsEnd(t *testing.T) {
	m, _ := New(1)
	m.accesses = math.MaxInt64 - 1
	m.Store(0, 7)
	if n := m.Count(); n != math.MaxInt64 {
		t.Fatalf("Count is %d after the last one that is counted", n)
	}
	if !m.Store(0, 8) || m.Load(0) != 8 {
		t.Error("a Store at the end of the count is none")
	}
	if w, ok := m.CAS(0, 8, 9); w != 8 || !ok || m.Look(0) != 9 {
		t.Errorf("a CAS at the end of the count is %d, %v", w, ok)
	}
	if w, ok := m.CAS(0, 8, 10); w != 9 || ok || m.Look(0) != 9 {
		t.Errorf("a CAS of another word at the end of the count is %d, %v", w, ok)
	}
	if n := m.Count(); n != math.MaxInt64 {
		t.Errorf("Count went on to %d", n)
	}
}
