package timer_test

import (
	"math"
	"slices"
	"testing"

	"futtock/api"
	"futtock/timer"
)

// end is the last time, written out.
const end = 1099511627776

// wrongThreads are such as there are none.
var wrongThreads = []int{
	-1, -2, -255, -256, 256, 257, 511, 512, 65536, 1 << 32, 1<<32 + 1, -1 << 32, math.MaxInt, math.MinInt, math.MinInt + 1,
}

// wrongAfters are such as no alarm is set for.
var wrongAfters = []int64{0, -1, -2, -end, -end - 1, -1 << 32, math.MinInt64, math.MinInt64 + 1}

// far are such as lie behind the last time from any time on.
var far = []int64{end, end + 1, 2 * end, math.MaxInt64 - end, math.MaxInt64 - end + 1, math.MaxInt64 - 1, math.MaxInt64}

// nobodys are clocks that New did not give.
func nobodys() []*timer.Clock {
	return []*timer.Clock{nil, {}, new(timer.Clock)}
}

// made is a clock at a time, without alarms.
func made(t *testing.T, now int64) *timer.Clock {
	t.Helper()
	c := timer.New()
	if c == nil {
		t.Fatal("New is nil")
	}
	if l := c.Tick(now); len(l) != 0 || c.Now() != now {
		t.Fatalf("a new clock's Tick(%d) tells %v, and it is %d", now, l, c.Now())
	}
	return c
}

// set sets an alarm that may be.
func set(t *testing.T, c *timer.Clock, thread int, after int64) {
	t.Helper()
	if err := c.Set(thread, after); err != api.OK {
		t.Fatalf("Set(%d, %d) is %d", thread, after, err)
	}
}

// ticked lets the time go on, and tells of what is told that should not be.
func ticked(t *testing.T, c *timer.Clock, n int64, want ...int) {
	t.Helper()
	if got := c.Tick(n); !slices.Equal(got, want) {
		t.Fatalf("Tick(%d) tells %v, not %v", n, got, want)
	}
}

// slow is what a clock should be: each thread's alarm at its place, 0 where
// there is none, and a time that goes on one by one.
type slow struct {
	now    int64
	alarms [256]int64
}

// step is the time that comes behind another one.
func step(at int64) int64 {
	if at == end {
		return end
	}
	return at + 1
}

func (s *slow) set(thread int, after int64) {
	at := s.now
	for range after {
		at = step(at)
	}
	s.alarms[thread] = at
}

func (s *slow) clear(thread int) bool {
	was := s.alarms[thread] != 0
	s.alarms[thread] = 0
	return was
}

// ring are those that are due at this very time, the lesser first.
func (s *slow) ring() (l []int) {
	for thread, at := range s.alarms {
		if at == s.now && at != 0 {
			l = append(l, thread)
			s.alarms[thread] = 0
		}
	}
	return l
}

func (s *slow) tick(n int64) []int {
	l := s.ring()
	for i := int64(0); i < n; i++ {
		s.now = step(s.now)
		l = append(l, s.ring()...)
	}
	return l
}

// next looks for the first one that is due, time by time, or for none at all.
func (s *slow) next() (int64, bool) {
	for at := s.now; s.len() > 0; at = step(at) {
		if at != 0 && slices.Contains(s.alarms[:], at) {
			return at, true
		}
	}
	return 0, false
}

func (s *slow) len() int {
	n := 0
	for _, at := range s.alarms {
		if at != 0 {
			n++
		}
	}
	return n
}

// agree tells of what a clock is not as it should be, asked twice.
func agree(t *testing.T, c *timer.Clock, s *slow) {
	t.Helper()
	for range 2 {
		if now := c.Now(); now != s.now {
			t.Fatalf("Now is %d, not %d", now, s.now)
		}
		if n := c.Len(); n != s.len() {
			t.Fatalf("Len is %d, not %d", n, s.len())
		}
		next, there := s.next()
		if at, ok := c.Next(); at != next || ok != there {
			t.Fatalf("Next is %d, %v, not %d, %v", at, ok, next, there)
		}
		for thread, want := range s.alarms {
			if at, ok := c.At(thread); at != want || ok != (want != 0) {
				t.Fatalf("At(%d) is %d, %v, not %d", thread, at, ok, want)
			}
		}
		for _, thread := range wrongThreads {
			if at, ok := c.At(thread); at != 0 || ok {
				t.Fatalf("At(%d) is %d, %v", thread, at, ok)
			}
		}
	}
}

// numbers are of no pattern, and the same ones each time.
type numbers uint64

func (n *numbers) below(end int) int {
	*n = *n*6364136223846793005 + 1442695040888963407
	return int(uint64(*n) >> 33 % uint64(end))
}

// P7.1: a new clock is at 0, and has no alarms; none of another one either.
func TestNew(t *testing.T) {
	c := timer.New()
	if c == nil {
		t.Fatal("New is nil")
	}
	agree(t, c, &slow{})
	set(t, c, 0, 1)
	ticked(t, c, 1, 0)
	set(t, c, 1, 1)
	agree(t, timer.New(), &slow{})
}

// P7.1: the document's example; then nothing is there any more.
func TestTickOfTwo(t *testing.T) {
	c := made(t, 0)
	set(t, c, 1, 5)
	set(t, c, 2, 3)
	agree(t, c, &slow{alarms: [256]int64{1: 5, 2: 3}})
	ticked(t, c, 5, 2, 1)
	agree(t, c, &slow{now: 5})
	ticked(t, c, 100)
}

// P7.1, P7.2: alarms that are set at a time, and when they are due: at most at
// the last time.
func TestSet(t *testing.T) {
	for _, x := range []struct{ now, after, at int64 }{
		{0, 1, 1},
		{0, 2, 2},
		{0, 1 << 32, 4294967296},
		{7, 1, 8},
		{7, 93, 100},
		{4294967295, 1, 4294967296},
		{0, end - 1, end - 1},
		{0, end, end},
		{0, end + 1, end},
		{0, math.MaxInt64 - 1, end},
		{0, math.MaxInt64, end},
		{1, end - 2, end - 1},
		{1, end - 1, end},
		{1, end, end},
		{1, math.MaxInt64 - 1, end},
		{1, math.MaxInt64, end},
		{end - 2, 1, end - 1},
		{end - 2, 2, end},
		{end - 2, 3, end},
		{end - 1, 1, end},
		{end - 1, 2, end},
		{end - 1, math.MaxInt64, end},
		{end, 1, end},
		{end, 2, end},
		{end, end, end},
		{end, math.MaxInt64 - end, end},
		{end, math.MaxInt64 - end + 1, end},
		{end, math.MaxInt64, end},
	} {
		for _, thread := range []int{0, 1, 7, 8, 128, 254, 255} {
			c := made(t, x.now)
			set(t, c, thread, x.after)
			if at, ok := c.At(thread); at != x.at || !ok {
				t.Errorf("at %d, of %d more, At(%d) is %d, %v, not %d", x.now, x.after, thread, at, ok, x.at)
			}
			if at, ok := c.Next(); at != x.at || !ok || c.Len() != 1 || c.Now() != x.now {
				t.Errorf("at %d, of %d more, Next is %d, %v, Len %d, Now %d", x.now, x.after, at, ok, c.Len(), c.Now())
			}
			for other := range 256 {
				if at, ok := c.At(other); other != thread && (at != 0 || ok) {
					t.Errorf("At(%d) is %d, %v, but of %d there is one", other, at, ok, thread)
				}
			}
		}
	}
}

// P7.1, P7.3: an alarm that is set anew stands in the place of the one that
// was, be that later or not; it is told at its own time, and once.
func TestSetAnew(t *testing.T) {
	for _, x := range []struct{ first, then int64 }{
		{5, 9}, {9, 5}, {5, 5}, {1, 2}, {2, 1}, {1, 1 << 32}, {1 << 32, 1},
	} {
		for _, thread := range []int{0, 4, 255} {
			c := made(t, 3)
			set(t, c, thread, x.first)
			set(t, c, thread, x.then)
			if at, ok := c.At(thread); at != 3+x.then || !ok || c.Len() != 1 {
				t.Errorf("set for %d, then for %d, At is %d, %v, Len %d", x.first, x.then, at, ok, c.Len())
			}
			ticked(t, c, x.then-1)
			ticked(t, c, 1, thread)
			ticked(t, c, 1<<33)
		}
	}
	c := made(t, 0)
	set(t, c, 6, 10)
	ticked(t, c, 9)
	set(t, c, 6, 10)
	ticked(t, c, 9)
	ticked(t, c, 1, 6)
	set(t, c, 6, 10)
	ticked(t, c, 10, 6)
	agree(t, c, &slow{now: 29})
}

// P7.1, R7: an alarm that may not be is refused, and turns nothing: not the
// one that the thread has, nor any other one.
func TestSetOfWhatMayNotBe(t *testing.T) {
	c, s := made(t, 11), &slow{now: 11}
	check := func(thread int, after int64) {
		t.Helper()
		if err := c.Set(thread, after); err != api.ErrArg {
			t.Errorf("Set(%d, %d) is %d", thread, after, err)
		}
	}
	refuse := func() {
		t.Helper()
		for _, thread := range wrongThreads {
			for _, after := range append([]int64{1, 5, math.MaxInt64}, wrongAfters...) {
				check(thread, after)
			}
		}
		for _, after := range wrongAfters {
			for _, thread := range []int{0, 1, 2, 254, 255} {
				check(thread, after)
			}
		}
		agree(t, c, s)
	}
	refuse()
	for _, thread := range []int{0, 2, 255} {
		set(t, c, thread, int64(thread)+1)
		s.set(thread, int64(thread)+1)
		refuse()
	}
	ticked(t, c, 300, 0, 2, 255)
}

// P7.1, P7.3: Clear tells whether there was one; then it is not there, is not
// told, and may be set anew. Others stay.
func TestClear(t *testing.T) {
	c, s := made(t, 2), &slow{now: 2}
	cleared := func(thread int, want bool) {
		t.Helper()
		if was := c.Clear(thread); was != want {
			t.Errorf("Clear(%d) is %v", thread, was)
		}
		if 0 <= thread && thread < 256 {
			s.clear(thread)
		}
		agree(t, c, s)
	}
	for thread := range 256 {
		cleared(thread, false)
	}
	for _, thread := range []int{0, 1, 100, 255} {
		set(t, c, thread, 10)
		s.set(thread, 10)
	}
	for _, thread := range append([]int{2, 99, 101, 254}, wrongThreads...) {
		cleared(thread, false)
	}
	for _, thread := range []int{0, 255, 100} {
		cleared(thread, true)
		cleared(thread, false)
	}
	set(t, c, 255, 4)
	s.set(255, 4)
	agree(t, c, s)
	ticked(t, c, 10, 255, 1)
	s.tick(10)
	for thread := range 256 {
		cleared(thread, false)
	}
	ticked(t, c, 1000)
}

// P7.1: Ticks that make none, one and several due, written out.
func TestTick(t *testing.T) {
	c := made(t, 0)
	for _, x := range []struct {
		thread int
		after  int64
	}{{3, 1}, {9, 2}, {255, 4}, {1, 4}, {0, 9}, {8, 6}, {2, 4}, {100, 1 << 35}} {
		set(t, c, x.thread, x.after)
	}
	ticked(t, c, 0)
	ticked(t, c, 1, 3)
	ticked(t, c, 1, 9)
	ticked(t, c, 1)
	ticked(t, c, 1, 1, 2, 255)
	ticked(t, c, 5, 8, 0)
	ticked(t, c, 1<<35-10)
	ticked(t, c, 1, 100)
	ticked(t, c, 1)
	if c.Now() != 1<<35+1 || c.Len() != 0 {
		t.Errorf("then Now is %d, Len %d", c.Now(), c.Len())
	}
}

// P7.1: an alarm is due at just the time that a Tick comes to, not one ahead
// of it; and one behind it as well.
func TestTickToTheTime(t *testing.T) {
	for _, now := range []int64{0, 1, 77, end - 1000} {
		for _, after := range []int64{1, 2, 3, 500, 999} {
			for _, thread := range []int{0, 5, 255} {
				c := made(t, now)
				set(t, c, thread, after)
				ticked(t, c, after-1)
				ticked(t, c, 0)
				ticked(t, c, 1, thread)
				set(t, c, thread, 1)
				ticked(t, c, 0)
				c.Clear(thread)

				c = made(t, now)
				set(t, c, thread, after)
				ticked(t, c, after, thread)

				c = made(t, now)
				set(t, c, thread, after)
				ticked(t, c, after+1, thread)
			}
		}
	}
}

// P7.1: alarms of one time are told the lesser thread first, in whatever order
// they were set, and however they came to that time.
func TestTickOfOneTime(t *testing.T) {
	all := make([]int, 256)
	for i := range all {
		all[i] = i
	}
	for round, by := range []int{1, 255, 3, 101} {
		c := made(t, 0)
		for i := range 256 {
			set(t, c, (i*by+17*round)%256, 12)
		}
		ticked(t, c, 11)
		ticked(t, c, 1, all...)

		for i := range 256 {
			set(t, c, 255-(i*by)%256, 5)
			if i == 100 {
				ticked(t, c, 2)
				for j := range i + 1 {
					set(t, c, 255-(j*by)%256, 5)
				}
			}
		}
		ticked(t, c, 5, all...)
	}
}

// P7.1: alarms of all threads, each of a time of its own, are told by their
// times, not by their threads; all at once, and in several Ticks.
func TestTickOfAllTimes(t *testing.T) {
	want := make([]int, 256)
	c, d := made(t, 0), made(t, 0)
	for thread := range 256 {
		after := (thread*91+40)%256 + 1
		want[after-1] = thread
		set(t, c, thread, int64(after))
		set(t, d, thread, int64(after))
	}
	ticked(t, c, 256, want...)
	for i := 0; i < 256; i += 16 {
		ticked(t, d, 16, want[i:i+16]...)
		if n := d.Len(); n != 240-i {
			t.Errorf("%d were told, Len is %d", i+16, n)
		}
	}
}

// P7.1: a Tick of 0 and one below 0 let no time go on.
func TestTickOfNothing(t *testing.T) {
	for _, now := range []int64{0, 1, 50, end - 1} {
		c, s := made(t, now), &slow{now: now}
		for _, thread := range []int{0, 8, 255} {
			set(t, c, thread, 1)
			s.set(thread, 1)
		}
		for _, n := range wrongAfters {
			ticked(t, c, n)
			agree(t, c, s)
		}
		ticked(t, c, 1, 0, 8, 255)
	}
}

// P7.1, R2: the time ends at the last one, and stays there.
func TestTickToTheEnd(t *testing.T) {
	for _, now := range []int64{0, 1, 9, end - 1, end} {
		for _, n := range far {
			c := made(t, now)
			for _, thread := range []int{0, 4, 255} {
				set(t, c, thread, math.MaxInt64)
			}
			set(t, c, 2, 1)
			if now < end-1 {
				ticked(t, c, n, 2, 0, 4, 255)
			} else {
				ticked(t, c, n, 0, 2, 4, 255)
			}
			agree(t, c, &slow{now: end})
			ticked(t, c, n)
			ticked(t, c, 1)
			agree(t, c, &slow{now: end})
		}
	}
	c := made(t, end-3)
	for _, want := range []int64{end - 2, end - 1, end, end, end} {
		if ticked(t, c, 1); c.Now() != want {
			t.Errorf("Now is %d, not %d", c.Now(), want)
		}
	}
}

// P7.1, P7.3: an alarm that is set at the last time is due at that, and is told
// by the next Tick, whatever that is of; once.
func TestSetAtTheEnd(t *testing.T) {
	for _, n := range append([]int64{1, 2}, append(wrongAfters, far...)...) {
		c := made(t, end)
		for _, thread := range []int{255, 0, 31} {
			set(t, c, thread, 1)
			set(t, c, thread, math.MaxInt64)
		}
		set(t, c, 30, end)
		agree(t, c, &slow{now: end, alarms: [256]int64{0: end, 30: end, 31: end, 255: end}})
		if !c.Clear(30) {
			t.Error("what was set at the last time is not there")
		}
		ticked(t, c, n, 0, 31, 255)
		agree(t, c, &slow{now: end})
		ticked(t, c, n)
		set(t, c, 31, 7)
		ticked(t, c, n, 31)
	}
}

// P7.2: a clock that New did not give tells nothing, and is turned by nothing:
// whatever is asked.
func TestNobodys(t *testing.T) {
	threads := append([]int{0, 1, 255}, wrongThreads...)
	afters := append([]int64{1, 5}, append(wrongAfters, far...)...)
	for i, c := range nobodys() {
		for _, thread := range threads {
			for _, after := range afters {
				if err := c.Set(thread, after); err != api.ErrNil {
					t.Errorf("%d: Set(%d, %d) is %d", i, thread, after, err)
				}
			}
			if c.Clear(thread) {
				t.Errorf("%d: Clear(%d) is true", i, thread)
			}
			if at, ok := c.At(thread); at != 0 || ok {
				t.Errorf("%d: At(%d) is %d, %v", i, thread, at, ok)
			}
		}
		for _, n := range afters {
			if l := c.Tick(n); len(l) != 0 {
				t.Errorf("%d: Tick(%d) tells %v", i, n, l)
			}
		}
		if at, ok := c.Next(); at != 0 || ok || c.Now() != 0 || c.Len() != 0 {
			t.Errorf("%d: Next is %d, %v, Now %d, Len %d", i, at, ok, c.Now(), c.Len())
		}
	}
}

// R4: what a Tick answers is the caller's: to write into it turns no clock, and
// no later call turns it.
func TestTickIsTheCallers(t *testing.T) {
	c := made(t, 0)
	for thread := range 8 {
		set(t, c, thread, int64(thread/4)+1)
	}
	l := c.Tick(1)
	kept := c.Tick(1)
	for i := range l {
		l[i] = 200
	}
	_ = append(l[:1], 201, 202, 203, 204, 205)
	agree(t, c, &slow{now: 2})
	for thread := range 8 {
		set(t, c, thread+8, 1)
	}
	ticked(t, c, 1, 8, 9, 10, 11, 12, 13, 14, 15)
	if !slices.Equal(kept, []int{4, 5, 6, 7}) {
		t.Errorf("what was answered is %v by now", kept)
	}
}

// follow sees that each alarm is told once, in time, or cleared, or set anew,
// and that what is told rises by times.
type follow struct {
	open map[int]int64
	last int64
}

func (f *follow) told(t *testing.T, was, now int64, l []int) {
	t.Helper()
	seen := 0
	for _, thread := range l {
		at, there := f.open[thread]
		if !there {
			t.Fatalf("%d is told, and has no alarm, or was told already", thread)
		}
		if at < was || at > now || at < f.last {
			t.Fatalf("%d of %d is told from %d to %d, behind one of %d", thread, at, was, now, f.last)
		}
		f.last = at
		delete(f.open, thread)
		seen++
	}
	for thread, at := range f.open {
		if at <= now {
			t.Fatalf("%d of %d is not told at %d", thread, at, now)
		}
	}
}

// P7.1 to P7.4: calls of no pattern, from several times on, with all that there
// is asked behind each.
func TestAllOrders(t *testing.T) {
	n := numbers(3)
	for _, threads := range []int{1, 2, 5, 40, 256} {
		for _, begin := range []int64{0, 1 << 33, end - 60, end} {
			c, s := made(t, begin), &slow{now: begin}
			f := follow{open: map[int]int64{}}
			told, several := 0, 0
			for range 1500 {
				thread := n.below(threads)
				switch n.below(8) {
				case 0, 1, 2, 3:
					after := int64(n.below(12) + 1)
					set(t, c, thread, after)
					s.set(thread, after)
					f.open[thread] = min(s.now+after, end)
				case 4:
					if got, want := c.Clear(thread), s.clear(thread); got != want {
						t.Fatalf("Clear(%d) is %v", thread, got)
					}
					delete(f.open, thread)
				default:
					by, was := int64(n.below(7)-2), s.now
					got, want := c.Tick(by), s.tick(by)
					if !slices.Equal(got, want) {
						t.Fatalf("Tick(%d) tells %v, not %v", by, got, want)
					}
					f.told(t, was, s.now, got)
					told += len(got)
					if len(got) > 1 {
						several++
					}
				}
				agree(t, c, s)
			}
			if told < 20 || threads > 1 && several < 5 {
				t.Errorf("of %d threads from %d on %d were told, %d times several: too few to tell", threads, begin, told, several)
			}
		}
	}
}

// R3: the same calls do the same, and it is the alarms that count, not the
// order in which they were set.
func TestSameAlarmsTellTheSame(t *testing.T) {
	n := numbers(9)
	for range 50 {
		var afters [256]int64
		for thread := range afters {
			afters[thread] = int64(n.below(20) + 1)
		}
		up, down := made(t, 0), made(t, 0)
		for thread := range 256 {
			set(t, up, thread, afters[thread])
			set(t, down, 255-thread, afters[255-thread])
		}
		for range 7 {
			if a, b := up.Tick(3), down.Tick(3); !slices.Equal(a, b) {
				t.Fatalf("one tells %v, one %v", a, b)
			}
		}
		if up.Len() != 0 || down.Len() != 0 {
			t.Errorf("then Len is %d and %d", up.Len(), down.Len())
		}
	}
}
