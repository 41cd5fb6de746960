package permit_test

import (
	"math"
	"slices"
	"testing"

	"futtock/api"
	"futtock/permit"
)

// sizes are numbers of threads that there may be.
var sizes = []int{1, 2, 3, 8, 100, 255, 256}

// wrongSizes are such as there may not be.
var wrongSizes = []int{
	0, -1, -2, -255, -256, -257, 257, 258, 512, 4096, 65536, 1 << 32, 1<<32 + 1, -1 << 32, math.MaxInt, math.MinInt, math.MinInt + 1,
}

// wrongs are threads that a table of so many does not have.
func wrongs(size int) []int {
	return []int{
		-1, -2, -size, -256, size, size + 1, 2*size + 255, 256, 257, 65536, 1 << 32, 1<<32 + 1, -1 << 32, math.MaxInt, math.MinInt, math.MinInt + 1,
	}
}

// nobodys are tables that New did not give.
func nobodys() []*permit.Table {
	refused, _ := permit.New(0)
	return []*permit.Table{nil, {}, new(permit.Table), refused}
}

// made is a table of so many threads.
func made(t *testing.T, size int) *permit.Table {
	t.Helper()
	p, err := permit.New(size)
	if p == nil || err != api.OK {
		t.Fatalf("New(%d) is %v, %d", size, p, err)
	}
	return p
}

// A call's letter: Park, Unpark, Interrupt, Take.
const calls = "PUIT"

// call does one; of a Take the error is OK, as it tells of none.
func call(p *permit.Table, letter byte, thread int) (bool, api.Errno) {
	switch letter {
	case 'P':
		return p.Park(thread)
	case 'U':
		return p.Unpark(thread)
	case 'I':
		return p.Interrupt(thread)
	}
	return p.Take(thread), api.OK
}

// did does one that may be, and tells of what it answers that it should not.
func did(t *testing.T, p *permit.Table, letter byte, thread int, want bool) {
	t.Helper()
	if got, err := call(p, letter, thread); got != want || err != api.OK {
		t.Fatalf("%c(%d) is %v, %d, not %v", letter, thread, got, err, want)
	}
}

// one is what a thread should be: a number that an unpark lets rise and a Park
// fall, from -1, asleep, to 1, a permit; and whether behind the last Take there
// was an Interrupt.
type one struct {
	n                 int
	at, asked, raised int
}

func (o *one) do(letter byte) bool {
	was := *o
	o.at++
	switch letter {
	case 'P':
		o.n = max(o.n-1, -1)
		return o.n == -1
	case 'I':
		o.raised = o.at
		o.n = min(o.n+1, 1)
		return was.n == -1
	case 'U':
		o.n = min(o.n+1, 1)
		return was.n == -1
	}
	o.asked = o.at
	return was.flag()
}

func (o *one) flag() bool { return o.raised > o.asked }

// agree tells of what a table is not as it should be, asked twice.
func agree(t *testing.T, p *permit.Table, all []one) {
	t.Helper()
	for range 2 {
		var sleepers []int
		for thread := range all {
			o := &all[thread]
			if got, want := p.Asleep(thread), o.n == -1; got != want {
				t.Fatalf("Asleep(%d) is %v", thread, got)
			}
			if got, want := p.Permit(thread), o.n == 1; got != want {
				t.Fatalf("Permit(%d) is %v", thread, got)
			}
			if got, want := p.Flag(thread), o.flag(); got != want {
				t.Fatalf("Flag(%d) is %v", thread, got)
			}
			if o.n == -1 {
				sleepers = append(sleepers, thread)
			}
		}
		if got := p.Sleepers(); !slices.Equal(got, sleepers) {
			t.Fatalf("Sleepers are %v, not %v", got, sleepers)
		}
		for _, thread := range wrongs(len(all)) {
			if p.Asleep(thread) || p.Permit(thread) || p.Flag(thread) {
				t.Fatalf("of %d threads %d is asleep, or has something", len(all), thread)
			}
		}
	}
}

// numbers are of no pattern, and the same ones each time.
type numbers uint64

func (n *numbers) below(end int) int {
	*n = *n*6364136223846793005 + 1442695040888963407
	return int(uint64(*n) >> 33 % uint64(end))
}

// P8.1: a new table's threads are awake, without permits and flags; there are
// just so many; and one table is not another one.
func TestNew(t *testing.T) {
	for _, size := range sizes {
		p := made(t, size)
		agree(t, p, make([]one, size))
		for thread := range size {
			did(t, p, 'I', thread, false)
			did(t, p, 'P', thread, false)
			did(t, p, 'P', thread, true)
		}
		agree(t, made(t, size), make([]one, size))
	}
}

// P8.1: so many threads there may not be.
func TestNewOfWhatMayNotBe(t *testing.T) {
	for _, size := range wrongSizes {
		if p, err := permit.New(size); p != nil || err != api.ErrArg {
			t.Errorf("New(%d) is %v, %d", size, p, err)
		}
	}
}

// P8.1: the document's example, of the first thread and the last one.
func TestParkOfOneWithAPermit(t *testing.T) {
	for _, size := range sizes {
		for _, thread := range []int{0, size - 1} {
			p := made(t, size)
			did(t, p, 'U', thread, false)
			did(t, p, 'P', thread, false)
			did(t, p, 'P', thread, true)
			did(t, p, 'U', thread, true)
			agree(t, p, make([]one, size))
		}
	}
}

// P8.1, P8.2: each call at each state, written out: what it answers, and what
// is asleep, a permit, a flag behind it.
func TestCalls(t *testing.T) {
	for _, x := range []struct {
		ahead                string
		letter               byte
		answer               bool
		asleep, permit, flag bool
	}{
		// Awake.
		{"", 'P', true, true, false, false},
		{"", 'U', false, false, true, false},
		{"", 'I', false, false, true, true},
		{"", 'T', false, false, false, false},
		// Awake, with a permit.
		{"U", 'P', false, false, false, false},
		{"U", 'U', false, false, true, false},
		{"U", 'I', false, false, true, true},
		{"U", 'T', false, false, true, false},
		// Asleep.
		{"P", 'P', true, true, false, false},
		{"P", 'U', true, false, false, false},
		{"P", 'I', true, false, false, true},
		{"P", 'T', false, true, false, false},
		// Awake, with a flag.
		{"PI", 'P', true, true, false, true},
		{"PI", 'U', false, false, true, true},
		{"PI", 'I', false, false, true, true},
		{"PI", 'T', true, false, false, false},
		// Awake, with a permit and a flag.
		{"I", 'P', false, false, false, true},
		{"I", 'U', false, false, true, true},
		{"I", 'I', false, false, true, true},
		{"I", 'T', true, false, true, false},
		// Asleep, with a flag.
		{"PIP", 'P', true, true, false, true},
		{"PIP", 'U', true, false, false, true},
		{"PIP", 'I', true, false, false, true},
		{"PIP", 'T', true, true, false, false},
		// Permits don't add up, nor do sleeps and flags.
		{"UUUP", 'P', true, true, false, false},
		{"IIUP", 'P', true, true, false, true},
		{"PPPU", 'U', false, false, true, false},
		{"PPPI", 'P', true, true, false, true},
		{"IIIT", 'T', false, false, true, false},
		{"PIIT", 'T', false, false, true, false},
	} {
		for _, size := range sizes {
			for _, thread := range []int{0, size / 2, size - 1} {
				p := made(t, size)
				for i := range len(x.ahead) {
					call(p, x.ahead[i], thread)
				}
				if got, err := call(p, x.letter, thread); got != x.answer || err != api.OK {
					t.Errorf("behind %q %c(%d) is %v, %d", x.ahead, x.letter, thread, got, err)
				}
				if a, b, c := p.Asleep(thread), p.Permit(thread), p.Flag(thread); a != x.asleep || b != x.permit || c != x.flag {
					t.Errorf("behind %q and %c(%d) it is %v, %v, %v", x.ahead, x.letter, thread, a, b, c)
				}
				if l := p.Sleepers(); x.asleep && !slices.Equal(l, []int{thread}) || !x.asleep && len(l) != 0 {
					t.Errorf("behind %q and %c(%d) Sleepers are %v", x.ahead, x.letter, thread, l)
				}
			}
		}
	}
}

// P8.1, P8.2: all calls of one thread, in all orders, up to six of them.
func TestAllOrdersOfOne(t *testing.T) {
	many := 1
	for length := range 7 {
		for nr := range many {
			p, all := made(t, 1), make([]one, 1)
			for rest, i := nr, 0; i < length; rest, i = rest/len(calls), i+1 {
				letter := calls[rest%len(calls)]
				did(t, p, letter, 0, all[0].do(letter))
			}
			agree(t, p, all)
		}
		many *= len(calls)
	}
}

// P8.1, P8.2, R7: a thread that is none is refused, and turns nothing of those
// that are there.
func TestThreadThatIsNone(t *testing.T) {
	for _, size := range sizes {
		p, all := made(t, size), make([]one, size)
		refuse := func() {
			t.Helper()
			for _, thread := range wrongs(size) {
				for i := range len(calls) {
					got, err := call(p, calls[i], thread)
					if got || err != api.ErrArg && calls[i] != 'T' {
						t.Errorf("of %d threads %c(%d) is %v, %d", size, calls[i], thread, got, err)
					}
				}
			}
			agree(t, p, all)
		}
		refuse()
		for _, letter := range []byte("PIPUU") {
			for thread := 0; thread < size; thread += 2 {
				did(t, p, letter, thread, all[thread].do(letter))
			}
			did(t, p, 'U', size-1, all[size-1].do('U'))
			refuse()
		}
	}
}

// P8.2: who sleeps is told rising, in whatever order they fell asleep.
func TestSleepers(t *testing.T) {
	for _, size := range sizes {
		up, odd := make([]int, size), []int{}
		for i := range up {
			up[i] = i
			if i%2 == 1 {
				odd = append(odd, i)
			}
		}
		down := slices.Clone(up)
		slices.Reverse(down)
		mixed := slices.Clone(odd)
		for i := 0; i < size; i += 2 {
			mixed = slices.Insert(mixed, i/2, i)
		}
		for _, order := range [][]int{up, down, mixed} {
			p := made(t, size)
			for _, thread := range order {
				did(t, p, 'P', thread, true)
			}
			if l := p.Sleepers(); !slices.Equal(l, up) {
				t.Fatalf("of %d threads, all asleep, Sleepers are %v", size, l)
			}
			for thread := 0; thread < size; thread += 2 {
				did(t, p, "UI"[thread/2%2], thread, true)
			}
			if l := p.Sleepers(); !slices.Equal(l, odd) {
				t.Fatalf("of %d threads, the odd ones asleep, Sleepers are %v", size, l)
			}
			for i, thread := range odd {
				did(t, p, "UI"[i%2], thread, true)
				if l := p.Sleepers(); !slices.Equal(l, odd[i+1:]) {
					t.Fatalf("%d woke up last, Sleepers are %v", thread, l)
				}
			}
		}
	}
}

// P8.2: a table that New did not give has nothing, whatever is asked; and no
// call makes one of it.
func TestNobodys(t *testing.T) {
	threads := append([]int{0, 1, 255}, wrongs(1)...)
	for i, p := range nobodys() {
		for _, thread := range threads {
			for j := range len(calls) {
				got, err := call(p, calls[j], thread)
				if got || err != api.ErrNil && calls[j] != 'T' {
					t.Errorf("%d: %c(%d) is %v, %d", i, calls[j], thread, got, err)
				}
			}
			if p.Asleep(thread) || p.Permit(thread) || p.Flag(thread) {
				t.Errorf("%d: %d is asleep, or has something", i, thread)
			}
			if l := p.Sleepers(); len(l) != 0 {
				t.Errorf("%d: Sleepers are %v", i, l)
			}
		}
	}
}

// R4: who sleeps is told in a list that is the caller's: to write into it turns
// no table, and no later call turns it.
func TestSleepersAreTheCallers(t *testing.T) {
	p, all := made(t, 9), make([]one, 9)
	for _, thread := range []int{7, 1, 4} {
		did(t, p, 'P', thread, all[thread].do('P'))
	}
	l, kept := p.Sleepers(), p.Sleepers()
	for i := range l {
		l[i] = 200
	}
	_ = append(l[:1], 201, 202, 203, 204)
	agree(t, p, all)
	did(t, p, 'U', 1, true)
	did(t, p, 'P', 0, true)
	p.Sleepers()
	if !slices.Equal(kept, []int{1, 4, 7}) {
		t.Errorf("what was answered is %v by now", kept)
	}
}

// follow sees by itself that no unpark is lost: whether each thread was
// unparked since it woke, or began, last, and did not Park since.
type follow []bool

func (f follow) see(t *testing.T, letter byte, thread int, answer bool) {
	t.Helper()
	switch letter {
	case 'P':
		if f[thread] && answer {
			t.Fatalf("%d fell asleep, and was unparked", thread)
		}
		f[thread] = false
	case 'U', 'I':
		f[thread] = !answer
	}
}

// P8.1 to P8.4: calls of no pattern, of several threads, with all that there is
// asked behind each.
func TestAllOrders(t *testing.T) {
	n := numbers(8)
	for _, size := range []int{1, 2, 5, 40, 256} {
		p, all := made(t, size), make([]one, size)
		f := make(follow, size)
		fell, stayed, several := 0, 0, 0
		for range 3000 {
			letter, thread := "PPPUIT"[n.below(6)], n.below(size)
			want := all[thread].do(letter)
			did(t, p, letter, thread, want)
			f.see(t, letter, thread, want)
			agree(t, p, all)
			for sleeper := range size {
				if p.Asleep(sleeper) && p.Permit(sleeper) {
					t.Fatalf("%d is asleep, and has a permit", sleeper)
				}
			}
			switch {
			case letter == 'P' && want:
				fell++
			case letter == 'P':
				stayed++
			}
			if len(p.Sleepers()) > 1 {
				several++
			}
		}
		if fell < 100 || stayed < 100 || size > 1 && several < 100 {
			t.Errorf("of %d threads %d fell asleep, %d stayed awake, %d times several slept: too few to tell", size, fell, stayed, several)
		}
	}
}

// P8.5: what a thread's calls answer, and what it is, is what they answer in a
// table in which no other thread does anything.
func TestThreadsDoNotTurnOneAnother(t *testing.T) {
	n := numbers(5)
	for _, size := range []int{2, 3, 17, 256} {
		p := made(t, size)
		alone := make([]*permit.Table, size)
		for thread := range alone {
			alone[thread] = made(t, size)
		}
		for range 6 * size {
			letter, thread := calls[n.below(4)], n.below(size)
			want, _ := call(alone[thread], letter, thread)
			did(t, p, letter, thread, want)
			for other, q := range alone {
				if p.Asleep(other) != q.Asleep(other) || p.Permit(other) != q.Permit(other) || p.Flag(other) != q.Flag(other) {
					t.Fatalf("%c(%d) turned %d", letter, thread, other)
				}
			}
		}
	}
}
