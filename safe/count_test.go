package safe_test

import (
	"testing"

	"futtock/api"
)

// most is where the counts stay, written out.
const most = 2147483647

// P17.1, R2: the count of requests stays at its end, and the Done behind it
// tells that; from there on it is counted anew.
func TestRequestsStayAtTheirEnd(t *testing.T) {
	t.Parallel()
	m := made(t, 1)
	put(t, m, 0, 1)
	for i := range most {
		if n := m.Request(); n != i+1 {
			t.Fatalf("Request behind %d is %d", i, n)
		}
	}
	for range 3 {
		if n := m.Request(); n != most {
			t.Fatalf("Request went on to %d", n)
		}
		is(t, m, true, true, 0)
	}
	done(t, m, most)
	is(t, m, false, true, 1)
	refused(t, m)
	request(t, m, 0, 2)
}

// P17.2, R2: the count of rounds stays at its end, and a Done does what it did.
func TestRoundsStayAtTheirEnd(t *testing.T) {
	t.Parallel()
	m := made(t, 1)
	put(t, m, 0, 1)
	for i := range most {
		m.Request()
		if n, err := m.Done(); n != 1 || err != api.OK {
			t.Fatalf("Done behind %d rounds is %d, %d", i, n, err)
		}
	}
	is(t, m, false, true, most)
	for i := range 3 {
		request(t, m, 0, i+1)
		done(t, m, i+1)
		is(t, m, false, true, most)
		refused(t, m)
	}
}
