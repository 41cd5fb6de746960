package vmq_test

import (
	"slices"
	"testing"

	"futtock/api"
	"futtock/vmq"
)

// revoke is a request of an object, its kind written out.
func revoke(obj int) vmq.Request { return vmq.Request{Kind: 1, Obj: obj} }

// deflate is the one of the other kind.
func deflate() vmq.Request { return vmq.Request{Kind: 2} }

// row are those objects' requests.
func row(objs ...int) []vmq.Request {
	var l []vmq.Request
	for _, obj := range objs {
		l = append(l, revoke(obj))
	}
	return l
}

// upTo are the numbers from 0 on, so many.
func upTo(end int) []int {
	l := make([]int, end)
	for i := range l {
		l[i] = i
	}
	return l
}

// made is an empty queue.
func made(t *testing.T) *vmq.Queue {
	t.Helper()
	q := vmq.New()
	if q == nil {
		t.Fatal("New is nil")
	}
	return q
}

// asked does an Ask of a request that is not there yet.
func asked(t *testing.T, q *vmq.Queue, r vmq.Request, thread int) {
	t.Helper()
	if isNew, err := q.Ask(r, thread); !isNew || err != api.OK {
		t.Fatalf("Ask(%v, %d) is %v, %d", r, thread, isNew, err)
	}
}

// joined does an Ask of a request that is there.
func joined(t *testing.T, q *vmq.Queue, r vmq.Request, thread int) {
	t.Helper()
	if isNew, err := q.Ask(r, thread); isNew || err != api.OK {
		t.Fatalf("Ask(%v, %d) is %v, %d", r, thread, isNew, err)
	}
}

// refused does an Ask that may not be.
func refused(t *testing.T, q *vmq.Queue, want api.Errno, r vmq.Request, thread int) {
	t.Helper()
	if isNew, err := q.Ask(r, thread); isNew || err != want {
		t.Fatalf("Ask(%v, %d) is %v, %d, not %d", r, thread, isNew, err, want)
	}
}

// told does a Next: of that request, with those who wait.
func told(t *testing.T, q *vmq.Queue, r vmq.Request, threads ...int) {
	t.Helper()
	if got, who, ok := q.Next(); got != r || !slices.Equal(who, threads) || !ok {
		t.Fatalf("Next is %v, %v, %v, not %v, %v", got, who, ok, r, threads)
	}
}

// toldNone does a Next of an empty queue.
func toldNone(t *testing.T, q *vmq.Queue) {
	t.Helper()
	if r, who, ok := q.Next(); r != (vmq.Request{}) || len(who) != 0 || ok {
		t.Fatalf("Next is %v, %v, %v", r, who, ok)
	}
}

// lists tells if those are not all requests, in order.
func lists(t *testing.T, q *vmq.Queue, those ...vmq.Request) {
	t.Helper()
	if l := q.All(); !slices.Equal(l, those) {
		t.Fatalf("All is %v, not %v", l, those)
	}
	if n := q.Len(); n != len(those) {
		t.Fatalf("Len is %d, not %d", n, len(those))
	}
}

// waits tells if those do not wait, or another one does, of all threads and of
// some that are none.
func waits(t *testing.T, q *vmq.Queue, threads ...int) {
	t.Helper()
	for thread := -3; thread < 260; thread++ {
		if ok := q.Waits(thread); ok != slices.Contains(threads, thread) {
			t.Fatalf("Waits(%d) is %v, and %v wait", thread, ok, threads)
		}
	}
	for _, thread := range wrongThreads {
		if q.Waits(thread) {
			t.Fatalf("Waits(%d) is true", thread)
		}
	}
}

// isEmpty tells of what an empty queue should not have; Next turns it by
// nothing.
func isEmpty(t *testing.T, q *vmq.Queue) {
	t.Helper()
	for range 2 {
		lists(t, q)
		waits(t, q)
		toldNone(t, q)
	}
}

// The kinds' numbers are those of the chapter.
func TestKinds(t *testing.T) {
	if vmq.Revoke != 1 || vmq.Deflate != 2 {
		t.Fatal(vmq.Revoke, vmq.Deflate)
	}
}

// P18.1, P18.2: a new queue is empty, whatever was asked of another one.
func TestNew(t *testing.T) {
	isEmpty(t, made(t))
	other := made(t)
	asked(t, other, revoke(0), 0)
	q := made(t)
	isEmpty(t, q)
	asked(t, q, revoke(0), 0)
	told(t, other, revoke(0), 0)
	lists(t, q, revoke(0))
	waits(t, q, 0)
	isEmpty(t, other)
}

// P18.1, P18.2: the document's example.
func TestOneRequestOfTwo(t *testing.T) {
	q := made(t)
	asked(t, q, revoke(3), 0)
	joined(t, q, revoke(3), 1)
	lists(t, q, revoke(3))
	waits(t, q, 0, 1)
	told(t, q, revoke(3), 0, 1)
	isEmpty(t, q)
}

// P18.1, P18.2: one request alone, of the first and the last numbers that there
// are and others between, by a thread and by nobody; then it is told, and the
// queue is empty.
func TestRequestAlone(t *testing.T) {
	for _, r := range append(row(0, 1, 2, 255, 256, 4096, 32768, 65534, 65535), deflate()) {
		for _, thread := range []int{0, 1, 7, 128, 254, 255} {
			q := made(t)
			asked(t, q, r, thread)
			lists(t, q, r)
			waits(t, q, thread)
			told(t, q, r, thread)
			isEmpty(t, q)
		}
		q := made(t)
		asked(t, q, r, -1)
		lists(t, q, r)
		waits(t, q)
		told(t, q, r)
		isEmpty(t, q)
	}
}

// P18.1: each object may be to be revoked, and each thread may ask.
func TestAskOfAll(t *testing.T) {
	q := made(t)
	for obj := range 65536 {
		asked(t, q, revoke(obj), obj%256)
		joined(t, q, revoke(obj), -1)
		told(t, q, revoke(obj), obj%256)
	}
	isEmpty(t, q)
}

// P18.1, P18.2, P18.4: several requests of both kinds, by a thread each and by
// nobody, are told as they were asked for, though their objects and threads are
// lesser ones.
func TestOrder(t *testing.T) {
	q := made(t)
	those := []vmq.Request{revoke(65535), revoke(9), deflate(), revoke(10), revoke(0), revoke(1)}
	threads := []int{255, 3, 200, -1, 0, 1}
	for i, r := range those {
		asked(t, q, r, threads[i])
		lists(t, q, those[:i+1]...)
	}
	waits(t, q, 255, 3, 200, 0, 1)
	told(t, q, those[0], 255)
	lists(t, q, those[1:]...)
	waits(t, q, 3, 200, 0, 1)
	told(t, q, those[1], 3)
	waits(t, q, 200, 0, 1)
	told(t, q, those[2], 200)
	lists(t, q, those[3:]...)
	told(t, q, those[3])
	waits(t, q, 0, 1)
	told(t, q, those[4], 0)
	lists(t, q, those[5])
	told(t, q, those[5], 1)
	isEmpty(t, q)
}

// P18.1, P18.3: Revoke of the object 0 and Deflate are two requests.
func TestKindsAreApart(t *testing.T) {
	q := made(t)
	asked(t, q, deflate(), 4)
	asked(t, q, revoke(0), 5)
	joined(t, q, deflate(), 6)
	joined(t, q, revoke(0), 7)
	lists(t, q, deflate(), revoke(0))
	told(t, q, deflate(), 4, 6)
	waits(t, q, 5, 7)
	told(t, q, revoke(0), 5, 7)
	isEmpty(t, q)
}

// P18.1 to P18.4: a request that several ask for, among others, is there once,
// where it was asked for first, and is told once with all of them, as they came,
// be they rising or not.
func TestAskOfWhatIsThere(t *testing.T) {
	q := made(t)
	asked(t, q, revoke(1), 7)
	asked(t, q, revoke(5), 9)
	joined(t, q, revoke(5), 255)
	asked(t, q, deflate(), 8)
	joined(t, q, revoke(5), 0)
	joined(t, q, revoke(1), 6)
	joined(t, q, revoke(5), 4)
	joined(t, q, deflate(), 3)
	lists(t, q, revoke(1), revoke(5), deflate())
	waits(t, q, 7, 9, 255, 8, 0, 6, 4, 3)
	told(t, q, revoke(1), 7, 6)
	lists(t, q, revoke(5), deflate())
	waits(t, q, 9, 255, 8, 0, 4, 3)
	joined(t, q, revoke(5), 2)
	told(t, q, revoke(5), 9, 255, 0, 4, 2)
	waits(t, q, 8, 3)
	told(t, q, deflate(), 8, 3)
	isEmpty(t, q)
}

// P18.1, P18.2: a request is there though nobody waits for it: whoever asks then
// joins it; and nobody joins it as often as it is asked for.
func TestAskOfNobody(t *testing.T) {
	for _, r := range []vmq.Request{revoke(0), revoke(65535), deflate()} {
		q := made(t)
		asked(t, q, revoke(77), 1)
		asked(t, q, r, -1)
		for range 300 {
			joined(t, q, r, -1)
			lists(t, q, revoke(77), r)
		}
		waits(t, q, 1)
		joined(t, q, r, 3)
		joined(t, q, r, -1)
		joined(t, q, r, 2)
		joined(t, q, r, -1)
		waits(t, q, 1, 2, 3)
		told(t, q, revoke(77), 1)
		told(t, q, r, 3, 2)
		isEmpty(t, q)
	}
}

// P18.1, P18.2: a request that was told is asked for anew: it is the last one
// then, and has none of those who waited for it ahead, by whomever it is asked
// for.
func TestAskAnew(t *testing.T) {
	for _, r := range []vmq.Request{revoke(0), revoke(65535), deflate()} {
		for _, thread := range []int{-1, 0, 1, 5} {
			q := made(t)
			asked(t, q, r, 0)
			joined(t, q, r, 1)
			asked(t, q, revoke(8), 2)
			asked(t, q, revoke(9), -1)
			told(t, q, r, 0, 1)
			waits(t, q, 2)
			asked(t, q, r, thread)
			lists(t, q, revoke(8), revoke(9), r)
			joined(t, q, r, 255)
			told(t, q, revoke(8), 2)
			told(t, q, revoke(9))
			want := []int{thread, 255}
			if thread == -1 {
				want = want[1:]
			}
			waits(t, q, want...)
			told(t, q, r, want...)
			isEmpty(t, q)
		}
	}
}

// P18.2: a thread that was told does not wait any more, and may ask again: for
// what it asked for, for what is there, and for what is new.
func TestToldThreadAsksAgain(t *testing.T) {
	q := made(t)
	asked(t, q, revoke(1), 0)
	asked(t, q, revoke(2), 1)
	refused(t, q, api.ErrThere, revoke(2), 0)
	told(t, q, revoke(1), 0)
	joined(t, q, revoke(2), 0)
	refused(t, q, api.ErrThere, revoke(1), 0)
	told(t, q, revoke(2), 1, 0)
	asked(t, q, revoke(1), 0)
	refused(t, q, api.ErrThere, revoke(3), 0)
	told(t, q, revoke(1), 0)
	asked(t, q, revoke(3), 0)
	waits(t, q, 0)
	lists(t, q, revoke(3))
	told(t, q, revoke(3), 0)
	isEmpty(t, q)
}

// P18.1, R7: a thread that waits asks for what it waits for, for another one
// that is there and for a new one, and each is refused, and turns nothing.
func TestAskOfOneThatWaits(t *testing.T) {
	for _, thread := range []int{0, 1, 128, 255} {
		q := made(t)
		asked(t, q, deflate(), thread^1)
		asked(t, q, revoke(4), thread)
		asked(t, q, revoke(5), -1)
		for range 2 {
			for _, r := range []vmq.Request{revoke(4), deflate(), revoke(5), revoke(0), revoke(6), revoke(65535)} {
				refused(t, q, api.ErrThere, r, thread)
				refused(t, q, api.ErrThere, r, thread^1)
			}
			lists(t, q, deflate(), revoke(4), revoke(5))
			waits(t, q, thread, thread^1)
		}
		told(t, q, deflate(), thread^1)
		refused(t, q, api.ErrThere, deflate(), thread)
		told(t, q, revoke(4), thread)
		told(t, q, revoke(5))
		isEmpty(t, q)
	}
}

// full has 256 requests of the objects from 0 on, of which the thread 0 waits
// for that of 7.
func full(t *testing.T) *vmq.Queue {
	t.Helper()
	q := made(t)
	for obj := range 256 {
		asked(t, q, revoke(obj), -1)
	}
	joined(t, q, revoke(7), 0)
	return q
}

// P18.1, R7: of a full queue a new request is refused, one that is there is not;
// and what was refused turned nothing.
func TestFull(t *testing.T) {
	q := full(t)
	for range 2 {
		for _, r := range []vmq.Request{revoke(256), revoke(65535), deflate()} {
			for _, thread := range []int{-1, 1, 2, 255} {
				refused(t, q, api.ErrFull, r, thread)
			}
		}
		lists(t, q, row(upTo(256)...)...)
		waits(t, q, 0)
	}
	joined(t, q, revoke(0), 1)
	joined(t, q, revoke(255), 255)
	for obj := range 256 {
		joined(t, q, revoke(obj), -1)
	}
	lists(t, q, row(upTo(256)...)...)
	waits(t, q, 0, 1, 255)
	told(t, q, revoke(0), 1)
	waits(t, q, 0, 255)
}

// P18.1: behind a Next of a full queue there is room for one more, and for just
// one.
func TestOneMoreBehindNext(t *testing.T) {
	q := full(t)
	told(t, q, revoke(0))
	asked(t, q, deflate(), 3)
	refused(t, q, api.ErrFull, revoke(0), 4)
	refused(t, q, api.ErrFull, revoke(256), -1)
	joined(t, q, deflate(), 4)
	told(t, q, revoke(1))
	asked(t, q, revoke(0), 1)
	refused(t, q, api.ErrFull, revoke(1), 2)
	lists(t, q, slices.Concat(row(upTo(256)[2:]...), []vmq.Request{deflate(), revoke(0)})...)
	waits(t, q, 0, 1, 3, 4)
	for obj := 2; obj < 256; obj++ {
		if obj == 7 {
			told(t, q, revoke(7), 0)
			continue
		}
		told(t, q, revoke(obj))
	}
	told(t, q, deflate(), 3, 4)
	told(t, q, revoke(0), 1)
	isEmpty(t, q)
}

// P18.1, P18.2, P18.4: all 256 threads wait, for one request.
func TestAllWaitForOne(t *testing.T) {
	for _, r := range []vmq.Request{revoke(0), revoke(65535), deflate()} {
		q := made(t)
		asked(t, q, r, 255)
		for thread := range 255 {
			joined(t, q, r, 254-thread)
		}
		joined(t, q, r, -1)
		for thread := range 256 {
			refused(t, q, api.ErrThere, r, thread)
			refused(t, q, api.ErrThere, revoke(9), thread)
		}
		lists(t, q, r)
		waits(t, q, upTo(256)...)
		down := upTo(256)
		slices.Reverse(down)
		told(t, q, r, down...)
		isEmpty(t, q)
	}
}

// P18.1, P18.2, P18.4: all 256 threads wait, each for its own request.
func TestEachWaitsForItsOwn(t *testing.T) {
	q := made(t)
	for thread := range 256 {
		asked(t, q, revoke(65535-thread), thread)
	}
	for thread := range 256 {
		refused(t, q, api.ErrThere, revoke(65535-thread), thread)
		refused(t, q, api.ErrThere, revoke(65535-(thread+1)%256), thread)
		refused(t, q, api.ErrThere, revoke(thread), thread)
	}
	refused(t, q, api.ErrFull, revoke(0), -1)
	for thread := range 256 {
		waits(t, q, upTo(256)[thread:]...)
		if n := q.Len(); n != 256-thread {
			t.Fatalf("Len is %d, not %d", n, 256-thread)
		}
		told(t, q, revoke(65535-thread), thread)
	}
	isEmpty(t, q)
}

// P18.2: Next of an empty queue turns nothing, and of one that is empty again
// neither.
func TestNextOfNone(t *testing.T) {
	q := made(t)
	for obj := range 5 {
		isEmpty(t, q)
		asked(t, q, revoke(obj), obj)
		joined(t, q, revoke(obj), 100)
		lists(t, q, revoke(obj))
		told(t, q, revoke(obj), obj, 100)
	}
	isEmpty(t, q)
}
