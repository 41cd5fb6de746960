package draw

import (
	"math"
	"testing"
)

// P5.1, R2: the count stays at its end, and the hashes go on. To bring it
// there from outside takes too long.
func TestCountStaysAtItsEnd(t *testing.T) {
	s, other := New(0), New(0)
	s.told = math.MaxInt32 - 1
	for i := range 5 {
		if h, want := s.Hash(), other.Hash(); h != want {
			t.Errorf("the hash %d at the end of the count is %d, not %d", i, h, want)
		}
		if n := s.Count(); n != math.MaxInt32 {
			t.Errorf("Count is %d, %d behind the last one that counts", n, i)
		}
		if s.State() != other.State() {
			t.Errorf("State is %d at the end of the count", s.State())
		}
	}
}
