package check_test

import (
	"math"
	"slices"

	"futtock/api"
	"futtock/check"
	"futtock/model"
)

// slow is what monitors should be, as far as calls tell: a value, in which nothing
// stands but how often each thread owns each object, and the hashes.
type slow struct {
	world
	count [8][8]int // by objects, by threads
	hash  [8]int
}

// row is a kind of transition, and the error that it tells.
type row struct {
	kind int
	err  api.Errno
}

// rows are all that calls may tell.
var rows = []row{
	{model.Enter, api.OK}, {model.Enter, api.ErrOver}, {model.Enter, api.ErrOut},
	{model.Try, api.OK}, {model.Try, api.ErrOver}, {model.Try, api.ErrBusy},
	{model.Exit, api.OK}, {model.Exit, api.ErrState},
	{model.Notify, api.OK}, {model.Notify, api.ErrState},
	{model.All, api.OK}, {model.All, api.ErrState},
	{model.Hash, api.OK}, {model.Holds, api.OK}, {model.Interrupt, api.OK},
}

// takes does a transition, and tells whether it may be done: if it may not, what it
// leaves is worth nothing.
func (s *slow) takes(e model.Event) bool {
	if e.Thread < 0 || e.Thread >= s.threads || e.Obj < 0 || e.Obj >= s.objects {
		return false
	}
	mine := &s.count[e.Obj][e.Thread]
	was, others := *mine, -*mine
	for _, n := range s.count[e.Obj] {
		others += n
	}
	switch (row{e.Kind, e.Err}) {
	case row{model.Enter, api.OK}, row{model.Try, api.OK}:
		*mine = was + 1
		return e.Arg == 0 && others == 0 && was < s.most
	case row{model.Enter, api.ErrOver}, row{model.Try, api.ErrOver}:
		return e.Arg == 0 && was == s.most
	case row{model.Enter, api.ErrOut}, row{model.Try, api.ErrBusy}:
		return e.Arg == 0 && others > 0
	case row{model.Exit, api.OK}:
		*mine = was - 1
		return e.Arg == 0 && was > 0
	case row{model.Exit, api.ErrState}, row{model.All, api.ErrState}:
		return e.Arg == 0 && was == 0
	case row{model.All, api.OK}:
		return e.Arg == 0 && was > 0
	case row{model.Notify, api.OK}:
		return e.Arg == -1 && was > 0
	case row{model.Notify, api.ErrState}:
		return e.Arg == -1 && was == 0
	case row{model.Holds, api.OK}:
		return e.Arg == min(was, 1)
	case row{model.Interrupt, api.OK}:
		return e.Arg >= 0 && e.Arg < s.threads
	case row{model.Hash, api.OK}:
		had := s.hash[e.Obj]
		s.hash[e.Obj] = e.Arg
		return e.Arg >= 1 && e.Arg <= math.MaxInt32 && (had == 0 || had == e.Arg)
	}
	return false
}

// takesAll tells whether all transitions may be done, as they stand.
func (w world) takesAll(l []check.Call) bool {
	s := slow{world: w}
	for _, c := range l {
		if !s.takes(c.Event) {
			return false
		}
	}
	return true
}

// inTime tells whether no call stands ahead of one that was over ahead of its
// beginning.
func inTime(l []check.Call) bool {
	for i, c := range l {
		for _, later := range l[i:] {
			if later.To < c.From {
				return false
			}
		}
	}
	return true
}

// first tries all orders one behind the other, the first ones by places first, and
// tells the first one in which calls can have been, and how many such ones there are.
func (w world) first(l []check.Call) (order []int, many int) {
	var places []int
	for i := range l {
		places = append(places, i)
	}
	for more := true; more; more = goOn(places) {
		if some := at(l, places); inTime(some) && w.takesAll(some) {
			if many++; many == 1 {
				order = slices.Clone(places)
			}
		}
	}
	return order, many
}

// goOn turns an order into the next one, if there is one.
func goOn(places []int) bool {
	i := len(places) - 2
	for i >= 0 && places[i] > places[i+1] {
		i--
	}
	if i < 0 {
		return false
	}
	k := len(places) - 1
	for places[k] < places[i] {
		k--
	}
	places[i], places[k] = places[k], places[i]
	slices.Reverse(places[i+1:])
	return true
}
