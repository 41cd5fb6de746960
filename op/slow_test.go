package op_test

import (
	"math"
	"regexp"
	"slices"
	"strconv"
	"strings"
	"testing"

	"futtock/api"
	"futtock/op"
)

// The kinds, as the document numbers them.
const (
	enter     = 1
	try       = 2
	exit      = 3
	wait      = 4
	notify    = 5
	all       = 6
	hash      = 7
	holds     = 8
	interrupt = 9
)

// kindWords are the kinds' words, each at its kind.
var kindWords = strings.Fields("none enter try exit wait notify all hash holds interrupt")

// isOne tells whether an operation may be, by what the document says of its kind.
func isOne(o api.Op, threads, objects int) bool {
	leastArg, mostArg, end := 0, 0, objects
	switch o.Kind {
	case wait:
		mostArg = 1000000
	case interrupt:
		mostArg, end = min(threads-1, 1000000), min(objects, 1)
	}
	return o.Kind >= 1 && o.Kind <= 9 && 0 <= o.Obj && o.Obj < end && leastArg <= o.Arg && o.Arg <= mostArg
}

// isOneOfAll tells so where as many threads and objects are as can be.
func isOneOfAll(o api.Op) bool { return isOne(o, 8, 8) }

// isProgram tells which error Text should tell of operations.
func isProgram(prog []api.Op) api.Errno {
	switch {
	case len(prog) > 64:
		return api.ErrMany
	case slices.ContainsFunc(prog, func(o api.Op) bool { return !isOneOfAll(o) }):
		return api.ErrArg
	}
	return api.OK
}

// written is the text of operations that may be.
func written(prog []api.Op) string {
	var b strings.Builder
	for i, o := range prog {
		if i > 0 {
			b.WriteString("; ")
		}
		b.WriteString(kindWords[o.Kind])
		switch {
		case o.Kind == interrupt:
			b.WriteString(" " + strconv.Itoa(o.Arg))
		case o.Arg > 0:
			b.WriteString(" " + strconv.Itoa(o.Obj) + " " + strconv.Itoa(o.Arg))
		default:
			b.WriteString(" " + strconv.Itoa(o.Obj))
		}
	}
	return b.String()
}

// form is what the text of an operation looks like.
var form = regexp.MustCompile(`^(?:(enter|try|exit|notify|all|hash|holds|interrupt) (0|[1-9][0-9]{0,8})|(wait) (0|[1-9][0-9]{0,8})(?: ([1-9][0-9]{0,8}))?)$`)

// parsed is what Parse should answer of a text.
func parsed(s string) ([]api.Op, api.Errno) {
	if s == "" {
		return nil, api.OK
	}
	var prog []api.Op
	for i, part := range strings.Split(s, "; ") {
		found := form.FindStringSubmatch(part)
		if i == 64 {
			return nil, api.ErrMany
		}
		if found == nil {
			return nil, api.ErrForm
		}
		o := api.Op{Kind: slices.Index(kindWords, found[1]+found[3])}
		o.Obj, _ = strconv.Atoi(found[2] + found[4])
		o.Arg, _ = strconv.Atoi(found[5])
		if o.Kind == interrupt {
			o.Obj, o.Arg = 0, o.Obj
		}
		if !isOneOfAll(o) {
			return nil, api.ErrArg
		}
		prog = append(prog, o)
	}
	return prog, api.OK
}

// unpacked is what Unpack should answer of bytes.
func unpacked(b []byte) ([]api.Op, api.Errno) {
	if len(b)%3 != 0 {
		return nil, api.ErrEnd
	}
	var prog []api.Op
	for i := 0; i < len(b); i += 3 {
		prog = append(prog, api.Op{Kind: int(b[i]) % 16, Obj: int(b[i]) / 16, Arg: int(b[i+1]) + 256*int(b[i+2])})
	}
	if err := isProgram(prog); err != api.OK {
		return nil, err
	}
	return prog, api.OK
}

// deep is how deep operations are in an object.
func deep(prog []api.Op, obj int) int {
	at := func(kind int) int {
		n := 0
		for _, o := range prog {
			if o.Kind == kind && o.Obj == obj {
				n++
			}
		}
		return n
	}
	return at(enter) - at(exit)
}

// isEven tells whether operations are even: no beginning of them is less than 0 deep
// in an object, and all of them are 0 deep in each.
func isEven(prog []api.Op) bool {
	depths := map[int]int{}
	least := 0
	for _, o := range prog {
		switch o.Kind {
		case enter:
			depths[o.Obj]++
		case exit:
			depths[o.Obj]--
		}
		least = min(least, depths[o.Obj])
	}
	for _, depth := range depths {
		if depth != 0 {
			return false
		}
	}
	return least == 0
}

// isNested tells whether operations nest: if each Enter is struck out with an Exit of
// its object that is next to it, again and again, no Exit is left.
func isNested(prog []api.Op) bool {
	var brackets []api.Op
	for _, o := range prog {
		if o.Kind == enter || o.Kind == exit {
			brackets = append(brackets, o)
		}
	}
	for i := 0; i+1 < len(brackets); {
		if brackets[i].Kind == enter && brackets[i+1].Kind == exit && brackets[i].Obj == brackets[i+1].Obj {
			brackets = slices.Delete(brackets, i, i+2)
			i = 0
			continue
		}
		i++
	}
	return !slices.ContainsFunc(brackets, func(o api.Op) bool { return o.Kind == exit })
}

// numbers are of no pattern, and the same ones each time.
type numbers uint64

func (n *numbers) below(end int) int {
	*n = *n*6364136223846793005 + 1442695040888963407
	return int(uint64(*n) >> 33 % uint64(end))
}

// op is an operation that may be, of any kind, object and Arg.
func (n *numbers) op(mostTicks int) api.Op {
	o := api.Op{Kind: 1 + n.below(9)}
	switch o.Kind {
	case interrupt:
		o.Arg = n.below(8)
	case wait:
		o.Obj, o.Arg = n.below(8), n.below(2)*n.below(mostTicks+1)
	default:
		o.Obj = n.below(8)
	}
	return o
}

// prog is a program of so many.
func (n *numbers) prog(many, mostTicks int) []api.Op {
	var prog []api.Op
	for range many {
		prog = append(prog, n.op(mostTicks))
	}
	return prog
}

// extremes are numbers that are none of a kind, of an object or of an Arg, though
// some have the lowest bits of one.
var extremes = []int{-1, -2, -8, -16, -256, 16, 17, 256, 257, 1 << 16, 1<<16 + 1, 1000001, 1 << 31, 1 << 32, 1<<32 + 1, -1 << 32, math.MaxInt, math.MinInt, math.MinInt + 1}

// wrongOps are operations that may not be.
func wrongOps() []api.Op {
	var l []api.Op
	for kind := 1; kind <= 9; kind++ {
		for _, n := range append([]int{8, 9, 15}, extremes...) {
			l = append(l, api.Op{Kind: kind, Obj: n})
			if kind != wait || n < 0 || n > 1000000 {
				l = append(l, api.Op{Kind: kind, Arg: n})
			}
		}
		if kind != wait && kind != interrupt {
			l = append(l, api.Op{Kind: kind, Arg: 1}, api.Op{Kind: kind, Obj: 7, Arg: 7})
		}
	}
	for _, kind := range append([]int{0, 10, 11, 15}, extremes...) {
		l = append(l, api.Op{Kind: kind}, api.Op{Kind: kind, Obj: 1}, api.Op{Kind: kind, Arg: 1})
	}
	for obj := 1; obj < 8; obj++ {
		l = append(l, api.Op{Kind: interrupt, Obj: obj}, api.Op{Kind: interrupt, Obj: obj, Arg: 7})
	}
	return l
}

// ops are the operations of a text that the test itself reads.
func ops(t *testing.T, s string) []api.Op {
	t.Helper()
	prog, err := parsed(s)
	if err != api.OK {
		t.Fatalf("%q is no program's text: %d", s, err)
	}
	return prog
}

// times is a text so many times, with `; ` between.
func times(many int, text string) string {
	return strings.Join(slices.Repeat([]string{text}, many), "; ")
}

// textIs tells of a program whose text is another one, or whose error.
func textIs(t *testing.T, prog []api.Op, want string, wantErr api.Errno) {
	t.Helper()
	was := slices.Clone(prog)
	for range 2 {
		if s, err := op.Text(prog); s != want || err != wantErr {
			t.Fatalf("Text(%v) is %q, %d, not %q, %d", prog, s, err, want, wantErr)
		}
	}
	if !slices.Equal(prog, was) {
		t.Fatalf("Text turned %v", was)
	}
}

// parseIs tells of a text whose program is another one, or whose error.
func parseIs(t *testing.T, s string, want []api.Op, wantErr api.Errno) {
	t.Helper()
	for range 2 {
		prog, err := op.Parse(s)
		if !slices.Equal(prog, want) || err != wantErr {
			t.Fatalf("Parse(%q) is %v, %d, not %v, %d", s, prog, err, want, wantErr)
		}
		for i := range prog {
			prog[i] = api.Op{Kind: 99}
		}
	}
}

// packIs tells of a program whose bytes are others, or whose error.
func packIs(t *testing.T, prog []api.Op, want []byte, wantErr api.Errno) {
	t.Helper()
	was := slices.Clone(prog)
	for range 2 {
		b, err := op.Pack(prog)
		if !slices.Equal(b, want) || err != wantErr {
			t.Fatalf("Pack(%v) is %v, %d, not %v, %d", prog, b, err, want, wantErr)
		}
		for i := range b {
			b[i] = 99
		}
	}
	if !slices.Equal(prog, was) {
		t.Fatalf("Pack turned %v", was)
	}
}

// unpackIs tells of bytes whose program is another one, or whose error.
func unpackIs(t *testing.T, b []byte, want []api.Op, wantErr api.Errno) {
	t.Helper()
	was := slices.Clone(b)
	for range 2 {
		prog, err := op.Unpack(b)
		if !slices.Equal(prog, want) || err != wantErr {
			t.Fatalf("Unpack(%v) is %v, %d, not %v, %d", b, prog, err, want, wantErr)
		}
		for i := range prog {
			prog[i] = api.Op{Kind: 99}
		}
	}
	if !slices.Equal(b, was) {
		t.Fatalf("Unpack turned %v", was)
	}
}
