package check

import (
	"futtock/api"
	"futtock/model"
)

// set are some of the calls: a bit of each, by its place.
type set uint16

// search is how far the search for an order of calls is.
type search struct {
	calls []Call
	// ahead are, of each call, those that were over ahead of its beginning.
	ahead []set
	// dead are those sets behind which the model takes the others in no order. Which
	// calls they are is enough to know: how often each thread owns each object, the
	// hashes and the flags come out the same in each order that the model takes.
	dead  map[set]struct{}
	order []int
}

// firstOrder is the first order by places in which calls can have been: nothing, if
// there is none.
func firstOrder(m *model.Model, calls []Call) []int {
	s := search{calls: calls, dead: map[set]struct{}{}}
	for _, c := range calls {
		s.ahead = append(s.ahead, overAhead(calls, c.From))
	}
	if !s.goOn(m, 0) {
		return nil
	}
	return s.order
}

// overAhead are those calls that were over ahead of a time.
func overAhead(calls []Call, time int) set {
	var those set
	for i, c := range calls {
		if c.To < time {
			those |= only(i)
		}
	}
	return those
}

// only is the set of the call at a place alone.
func only(place int) set {
	return 1 << place
}

// goOn goes on behind a set of calls, which lead to the model, and tells whether it
// came to the end. The least places are tried first.
func (s *search) goOn(m *model.Model, done set) bool {
	if len(s.order) == len(s.calls) {
		return true
	}
	if _, isDead := s.dead[done]; isDead {
		return false
	}
	for i := range s.calls {
		if s.mayBeNext(i, done) && s.take(m, done, i) {
			return true
		}
	}
	s.dead[done] = struct{}{}
	return false
}

// mayBeNext tells whether a call may stand next, by its times.
func (s *search) mayBeNext(place int, done set) bool {
	return done&only(place) == 0 && s.ahead[place]&^done == 0
}

// take takes a call as the next one, if the model does, and goes on behind it.
func (s *search) take(m *model.Model, done set, place int) bool {
	next := m.Clone()
	if next.Apply(s.calls[place].Event) != api.OK {
		return false
	}
	s.order = append(s.order, place)
	if s.goOn(next, done|only(place)) {
		return true
	}
	s.order = s.order[:len(s.order)-1]
	return false
}
