package vmq_test

import (
	"slices"
	"testing"

	"futtock/api"
	"futtock/vmq"
)

// ask is an Ask that was OK.
type ask struct {
	r      vmq.Request
	thread int
}

// slow is a second reckoning, by what was asked and not told yet, those of nobody
// among it, one behind the other: all else is counted out of that.
type slow struct{ asks []ask }

// all are the requests, each where it was asked for first.
func (s *slow) all() []vmq.Request {
	var l []vmq.Request
	for _, a := range s.asks {
		if !slices.Contains(l, a.r) {
			l = append(l, a.r)
		}
	}
	return l
}

// who asked for a request, and waits.
func (s *slow) who(r vmq.Request) []int {
	var l []int
	for _, a := range s.asks {
		if a.r == r && a.thread >= 0 {
			l = append(l, a.thread)
		}
	}
	return l
}

// waits are all who do.
func (s *slow) waits() []int {
	var l []int
	for _, a := range s.asks {
		if a.thread >= 0 {
			l = append(l, a.thread)
		}
	}
	return l
}

// isOne tells whether a request is one, by what the chapter says.
func isOne(r vmq.Request) bool {
	return r.Kind == 1 && r.Obj >= 0 && r.Obj < 65536 || r.Kind == 2 && r.Obj == 0
}

func (s *slow) ask(r vmq.Request, thread int) (bool, api.Errno) {
	if !isOne(r) || thread < -1 || thread > 255 {
		return false, api.ErrArg
	}
	if thread != -1 && slices.Contains(s.waits(), thread) {
		return false, api.ErrThere
	}
	there := slices.Contains(s.all(), r)
	if !there && len(s.all()) == 256 {
		return false, api.ErrFull
	}
	s.asks = append(s.asks, ask{r, thread})
	return !there, api.OK
}

func (s *slow) next() (vmq.Request, []int, bool) {
	if len(s.asks) == 0 {
		return vmq.Request{}, nil, false
	}
	r := s.asks[0].r
	who := s.who(r)
	s.asks = slices.DeleteFunc(s.asks, func(a ask) bool { return a.r == r })
	return r, who, true
}

// sameAsk does an Ask of both, tells if they do not answer the same, and answers
// what they do.
func (s *slow) sameAsk(t *testing.T, q *vmq.Queue, r vmq.Request, thread int) (bool, api.Errno) {
	t.Helper()
	isNew, err := q.Ask(r, thread)
	if want, wantErr := s.ask(r, thread); isNew != want || err != wantErr {
		t.Fatalf("Ask(%v, %d) is %v, %d, not %v, %d", r, thread, isNew, err, want, wantErr)
	}
	return isNew, err
}

// sameNext does a Next of both, tells if they do not answer the same, and answers
// whether there was one.
func (s *slow) sameNext(t *testing.T, q *vmq.Queue) bool {
	t.Helper()
	r, who, ok := s.next()
	if ok {
		told(t, q, r, who...)
	} else {
		toldNone(t, q)
	}
	return ok
}

// agree tells of what a queue should show and doesn't, asked twice.
func (s *slow) agree(t *testing.T, q *vmq.Queue) {
	t.Helper()
	all, waiting := s.all(), s.waits()
	for range 2 {
		lists(t, q, all...)
		waits(t, q, waiting...)
	}
}

// toldAll lets all be told of both.
func (s *slow) toldAll(t *testing.T, q *vmq.Queue) {
	t.Helper()
	for s.sameNext(t, q) {
		lists(t, q, s.all()...)
	}
	isEmpty(t, q)
}
