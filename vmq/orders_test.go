package vmq_test

import (
	"slices"
	"testing"

	"futtock/api"
	"futtock/vmq"
)

// numbers are of no pattern, and the same ones each time.
type numbers uint64

func (n *numbers) below(end int) int {
	*n = *n*6364136223846793005 + 1442695040888963407
	return int(uint64(*n) >> 33 % uint64(end))
}

// P18.1 to P18.4: all calls of few requests and threads, in all orders, up to so
// many of them.
func TestAllOrdersOfFew(t *testing.T) {
	for _, x := range []struct {
		requests []vmq.Request
		threads  []int
		length   int
	}{
		{row(3), []int{-1, 0, 1}, 6},
		{[]vmq.Request{revoke(0), deflate()}, []int{-1, 0, 255}, 5},
		{row(0, 1, 65535), []int{0, 1}, 5},
	} {
		acts := len(x.requests)*len(x.threads) + 1
		many := 1
		for range x.length {
			many *= acts
		}
		for nr := range many {
			q, s := made(t), &slow{}
			for rest, i := nr, 0; i < x.length; rest, i = rest/acts, i+1 {
				k := rest % acts
				if k == acts-1 {
					s.sameNext(t, q)
					continue
				}
				s.sameAsk(t, q, x.requests[k/len(x.threads)], x.threads[k%len(x.threads)])
			}
			lists(t, q, s.all()...)
			s.toldAll(t, q)
		}
	}
}

// kind is of which size long rows are: so many objects and threads, and of so
// many calls one is a Next.
type kind struct{ objs, threads, calls int }

// request is one of no pattern; of some it is none.
func (n *numbers) request(objs int) vmq.Request {
	switch n.below(20) {
	case 0:
		return vmq.Request{Kind: n.below(5) - 1, Obj: n.below(3) - 1}
	case 1, 2:
		return deflate()
	}
	return revoke(n.below(objs) * 65535 / max(objs-1, 1))
}

// thread is one of no pattern, often nobody, as few would ask else once many
// wait; now and then it is none.
func (n *numbers) thread(threads int) int {
	switch n.below(12) {
	case 0:
		return []int{-2, 256}[n.below(2)]
	case 1, 2, 3:
		return -1
	}
	return n.below(threads)
}

// P18.1, P18.2: long rows of all calls, with all that there is asked behind
// each, held against the second reckoning.
func TestLongRows(t *testing.T) {
	n := numbers(18)
	for _, x := range []kind{{1, 1, 3}, {2, 3, 4}, {5, 8, 6}, {40, 256, 30}, {300, 256, 200}, {400, 256, 300}} {
		q, s := made(t), &slow{}
		times := map[api.Errno]int{}
		fresh, next := 0, 0
		for range 3000 {
			if n.below(x.calls) == 0 {
				s.sameNext(t, q)
				next++
			} else {
				isNew, err := s.sameAsk(t, q, n.request(x.objs), n.thread(x.threads))
				times[err]++
				if isNew {
					fresh++
				}
			}
			s.agree(t, q)
		}
		if times[api.OK] < 50 || times[api.ErrArg] < 50 || times[api.ErrThere] < 50 || fresh < 5 || next < 5 {
			t.Errorf("of %v there were %v, %d new ones and %d of Next: too few to tell", x, times, fresh, next)
		}
		if x.objs == 400 && times[api.ErrFull] < 50 {
			t.Errorf("of %v there were %v: too few to tell", x, times)
		}
		s.toldAll(t, q)
	}
}

// P18.3: by what is answered alone, no request is there twice, behind calls of
// no pattern.
func TestNoRequestIsThereTwice(t *testing.T) {
	n := numbers(3)
	q := made(t)
	several := 0
	for range 20000 {
		if n.below(9) == 0 {
			q.Next()
		} else {
			q.Ask(n.request(9), n.thread(11))
		}
		times := map[vmq.Request]int{}
		for _, r := range q.All() {
			times[r]++
			if times[r] > 1 || !isOne(r) {
				t.Fatalf("%v is there in %v", r, q.All())
			}
		}
		if len(times) != q.Len() {
			t.Fatalf("Len is %d of %v", q.Len(), q.All())
		}
		if len(times) > 4 {
			several++
		}
	}
	if several < 1000 {
		t.Errorf("several requests were there %d times: too few to tell", several)
	}
}

// course sees by itself that each request that is there is told once, in order,
// with all who waited: it goes by what was answered alone.
type course struct {
	order   []vmq.Request
	waiting map[vmq.Request][]int
	told    int
}

func (c *course) ask(q *vmq.Queue, r vmq.Request, thread int) {
	isNew, err := q.Ask(r, thread)
	if isNew {
		c.order = append(c.order, r)
	}
	if err == api.OK && thread >= 0 {
		c.waiting[r] = append(c.waiting[r], thread)
	}
}

func (c *course) next(t *testing.T, q *vmq.Queue) {
	t.Helper()
	r, who, ok := q.Next()
	if ok != (len(c.order) > 0) {
		t.Fatalf("Next is %v, and %v are to be told", ok, c.order)
	}
	if !ok {
		return
	}
	if r != c.order[0] || !slices.Equal(who, c.waiting[r]) {
		t.Fatalf("Next is %v, %v, and %v for %v are to be told", r, who, c.waiting[c.order[0]], c.order)
	}
	for _, thread := range who {
		if q.Waits(thread) {
			t.Fatalf("%d was told, and waits", thread)
		}
	}
	c.order = c.order[1:]
	delete(c.waiting, r)
	c.told++
}

// P18.4: each that was asked for is told once, in order, with all who waited,
// and none else is.
func TestEachIsToldOnce(t *testing.T) {
	n := numbers(4)
	for _, x := range []kind{{2, 3, 4}, {9, 12, 7}, {300, 256, 200}} {
		q, c := made(t), &course{waiting: map[vmq.Request][]int{}}
		fresh := 0
		for range 20000 {
			if n.below(x.calls) == 0 {
				c.next(t, q)
				continue
			}
			was := len(c.order)
			c.ask(q, n.request(x.objs), n.thread(x.threads))
			fresh += len(c.order) - was
		}
		for len(c.order) > 0 {
			c.next(t, q)
		}
		isEmpty(t, q)
		if c.told != fresh || fresh < 100 || len(c.waiting) != 0 {
			t.Errorf("of %v %d were told of %d, %v wait", x, c.told, fresh, c.waiting)
		}
	}
}

// P18.1, P18.2: two queues do not turn each other.
func TestQueuesAreApart(t *testing.T) {
	n := numbers(19)
	a, b := made(t), made(t)
	s, u := &slow{}, &slow{}
	for range 1000 {
		if n.below(4) == 0 {
			s.sameNext(t, a)
		} else {
			s.sameAsk(t, a, n.request(4), n.thread(8))
		}
		u.agree(t, b)
		if n.below(4) == 0 {
			u.sameNext(t, b)
		} else {
			u.sameAsk(t, b, n.request(4), n.thread(8))
		}
		s.agree(t, a)
	}
}
