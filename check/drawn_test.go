package check_test

import (
	"slices"

	"futtock/api"
	"futtock/check"
	"futtock/model"
)

// numbers are of no pattern, and the same ones each time.
type numbers uint64

func (n *numbers) below(end int) int {
	*n = *n*6364136223846793005 + 1442695040888963407
	return int(uint64(*n) >> 33 % uint64(end))
}

// one is one of some numbers.
func (n *numbers) one(l ...int) int { return l[n.below(len(l))] }

// world is a drawn one: few threads and objects, so that calls meet.
func (n *numbers) world() world {
	return world{n.one(1, 2, 2, 3, 4, 8), n.one(1, 1, 1, 2, 3, 8), n.one(1, 2, 2, 3, 60)}
}

// event is a drawn transition of a kind that counts, such as may be somewhere.
func (n *numbers) event(w world) model.Event {
	r := rows[n.below(len(rows))]
	e := model.Event{Kind: r.kind, Err: r.err, Thread: n.below(w.threads), Obj: n.below(w.objects)}
	switch e.Kind {
	case model.Notify:
		e.Arg = -1
	case model.Hash:
		e.Arg = n.one(5, 5, 5, 6)
	case model.Holds:
		e.Arg = n.below(2)
	case model.Interrupt:
		e.Arg = n.below(w.threads)
	}
	return e
}

// past are drawn transitions, which the model takes as they stand.
func (n *numbers) past(w world, many int) []check.Call {
	s := slow{world: w}
	var l []check.Call
	for len(l) < many {
		e := n.event(w)
		if next := s; next.takes(e) {
			s = next
			l = append(l, check.Call{Event: e})
		}
	}
	return l
}

// spread gives such transitions times around the one at which each was done, as far
// away as that, so that they can have been.
func (n *numbers) spread(l []check.Call, far int) {
	for i := range l {
		l[i].From = 4*i - n.below(far+1)
		l[i].To = 4*i + 1 + n.below(far+1)
	}
}

// inARow gives them times that rise and do not overlap: some of them touch.
func (n *numbers) inARow(l []check.Call) {
	time := -n.below(20)
	for i := range l {
		l[i].From = time
		l[i].To = time + 1 + n.below(3)
		time = l[i].To + n.one(0, 0, 1, 2)
	}
}

// shuffled are calls in another order.
func (n *numbers) shuffled(l []check.Call) []check.Call {
	l = slices.Clone(l)
	for i := range l {
		k := n.below(i + 1)
		l[i], l[k] = l[k], l[i]
	}
	return l
}

// spoilt are calls of which one is another one, which is a call still.
func (n *numbers) spoilt(w world, l []check.Call) []check.Call {
	l = slices.Clone(l)
	c := &l[n.below(len(l))]
	switch e := &c.Event; n.below(6) {
	case 0:
		*e = n.event(w)
	case 1:
		e.Thread = n.below(w.threads)
	case 2:
		e.Obj = n.below(w.objects)
	case 3:
		if e.Kind != model.Hash {
			e.Err = api.Errno(n.one(0, 9, 10, 11, 14))
		}
	case 4:
		c.From = c.To - 1 - n.below(3)
	default:
		if e.Kind != model.Notify {
			e.Arg = n.one(-1, 0, 1, 5, 6)
		}
	}
	return l
}

// calls are drawn ones: of a past that was so, of one of which one call is another one,
// or of none.
func (n *numbers) calls(w world, many int) []check.Call {
	l := n.past(w, many)
	n.spread(l, n.one(0, 3, 6, 12, 40))
	switch n.below(4) {
	case 0, 1:
		if many > 0 {
			l = n.spoilt(w, l)
		}
	case 2:
		for i := range l {
			l[i].Event = n.event(w)
		}
	}
	return n.shuffled(l)
}
