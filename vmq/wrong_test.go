package vmq_test

import (
	"math"
	"slices"
	"testing"

	"futtock/api"
	"futtock/vmq"
)

// far are neither kinds nor objects nor threads, though some have the lowest
// bits of one.
var far = []int{1 << 32, 1<<32 + 1, 1<<32 + 2, -1 << 32, 1<<40 + 1, math.MaxInt, math.MaxInt - 1, math.MinInt, math.MinInt + 1, math.MinInt + 2}

// wrongThreads are none.
var wrongThreads = append([]int{-2, -3, -255, -256, -257, 256, 257, 511, 512, 65535, 65536, 65537}, far...)

// wrongRequests are none: by their kinds, by their objects, by both.
func wrongRequests() []vmq.Request {
	var l []vmq.Request
	for _, kind := range append([]int{0, 3, 4, 5, -1, -2, 256, 257, 258, 65537}, far...) {
		for _, obj := range []int{0, 1, 3, 65535, -1, 65536} {
			l = append(l, vmq.Request{Kind: kind, Obj: obj})
		}
	}
	for _, obj := range append([]int{-1, -2, -65535, -65536, 65536, 65537, 131072}, far...) {
		l = append(l, revoke(obj), vmq.Request{Kind: 2, Obj: obj})
	}
	for _, obj := range []int{1, 2, 3, 255, 256, 65535} {
		l = append(l, vmq.Request{Kind: 2, Obj: obj})
	}
	return l
}

// nobodys are queues that New did not give.
func nobodys() []*vmq.Queue {
	return []*vmq.Queue{nil, {}, new(vmq.Queue)}
}

// noSuchAsk tells of an Ask of a request or a thread that is none, or of both,
// that is not refused as one.
func noSuchAsk(t *testing.T, q *vmq.Queue) {
	t.Helper()
	for _, r := range wrongRequests() {
		for _, thread := range append([]int{-1, 0, 1, 2, 255}, wrongThreads...) {
			refused(t, q, api.ErrArg, r, thread)
		}
	}
	for _, r := range []vmq.Request{revoke(0), revoke(3), revoke(256), revoke(65535), deflate()} {
		for _, thread := range wrongThreads {
			refused(t, q, api.ErrArg, r, thread)
		}
	}
}

// P18.1, R1, R7: an Ask of what is none is ErrArg, of a request, of a thread, of
// both, of an empty queue, by one that waits already and of a full queue, too;
// and it turns nothing.
func TestAskOfWhatIsNone(t *testing.T) {
	q := made(t)
	noSuchAsk(t, q)
	isEmpty(t, q)

	asked(t, q, revoke(3), 0)
	joined(t, q, revoke(3), 1)
	asked(t, q, deflate(), 255)
	noSuchAsk(t, q)
	lists(t, q, revoke(3), deflate())
	waits(t, q, 0, 1, 255)
	told(t, q, revoke(3), 0, 1)
	told(t, q, deflate(), 255)
	isEmpty(t, q)

	q = full(t)
	noSuchAsk(t, q)
	lists(t, q, row(upTo(256)...)...)
	waits(t, q, 0)
}

// P18.1, R1: a thread that waits already is ErrThere in a full queue, too, of a
// request that is there and of one that is not.
func TestAskOfOneThatWaitsInAFullQueue(t *testing.T) {
	q := full(t)
	for range 2 {
		for _, r := range []vmq.Request{revoke(7), revoke(0), revoke(255), revoke(256), revoke(65535), deflate()} {
			refused(t, q, api.ErrThere, r, 0)
		}
		lists(t, q, row(upTo(256)...)...)
		waits(t, q, 0)
	}
	refused(t, q, api.ErrFull, deflate(), 1)
	for obj := range 7 {
		told(t, q, revoke(obj))
	}
	told(t, q, revoke(7), 0)
	told(t, q, revoke(8))
	waits(t, q)
}

// P18.1, R7: what was refused leaves no trace: the request is new, and the thread
// waits for nothing, as it is asked for again.
func TestRefusedAskLeavesNothing(t *testing.T) {
	q := full(t)
	refused(t, q, api.ErrFull, deflate(), 9)
	refused(t, q, api.ErrThere, deflate(), 0)
	refused(t, q, api.ErrThere, revoke(3), 0)
	told(t, q, revoke(0))
	asked(t, q, deflate(), -1)
	joined(t, q, revoke(3), 9)
	told(t, q, revoke(1))
	told(t, q, revoke(2))
	told(t, q, revoke(3), 9)
	for obj := 4; obj < 256; obj++ {
		if _, who, _ := q.Next(); obj != 7 && len(who) != 0 {
			t.Fatalf("%v wait for %d", who, obj)
		}
	}
	told(t, q, deflate())
	isEmpty(t, q)
}

// P18.2: a queue that New did not give has nothing, whatever is asked; and no
// call makes one of it.
func TestNobodys(t *testing.T) {
	for _, q := range nobodys() {
		for range 2 {
			for _, r := range append(wrongRequests(), vmq.Request{}, revoke(0), revoke(3), revoke(65535), deflate()) {
				for _, thread := range append([]int{-1, 0, 1, 255}, wrongThreads...) {
					refused(t, q, api.ErrNil, r, thread)
				}
			}
			isEmpty(t, q)
		}
	}
}

// R4: what Next and All answer is the caller's: to write into it, or behind it,
// turns no queue and no other answer, and no later call turns it.
func TestAnswersAreTheCallers(t *testing.T) {
	q := made(t)
	for thread := range 5 {
		q.Ask(revoke(1), thread)
	}
	asked(t, q, revoke(2), 5)
	joined(t, q, revoke(2), 6)
	asked(t, q, revoke(3), 7)

	all, kept := q.All(), q.All()
	for i := range all {
		all[i] = vmq.Request{Kind: 90 + i, Obj: 91}
	}
	_ = append(all[:1], revoke(60), revoke(61), revoke(62))
	lists(t, q, row(1, 2, 3)...)

	_, who, _ := q.Next()
	for i := range who {
		who[i] = 7
	}
	_ = append(who[:1], 8, 9, 10, 11, 12, 13, 14)
	lists(t, q, row(2, 3)...)
	waits(t, q, 5, 6, 7)

	asked(t, q, revoke(1), 0)
	joined(t, q, revoke(1), 1)
	_, second, _ := q.Next()
	joined(t, q, revoke(1), 5)
	asked(t, q, revoke(2), 6)
	told(t, q, revoke(3), 7)
	if who[0] != 7 || !slices.Equal(second, []int{5, 6}) || !slices.Equal(kept, row(1, 2, 3)) {
		t.Fatalf("what was answered is %v, %v and %v by now", who, second, kept)
	}
	told(t, q, revoke(1), 0, 1, 5)
	told(t, q, revoke(2), 6)
	isEmpty(t, q)
}
