package op_test

import (
	"slices"
	"strings"
	"testing"

	"futtock/api"
	"futtock/op"
)

// singles are texts of one operation, and these.
var singles = map[string]api.Op{
	"enter 0":        {Kind: enter},
	"enter 7":        {Kind: enter, Obj: 7},
	"try 0":          {Kind: try},
	"try 1":          {Kind: try, Obj: 1},
	"try 7":          {Kind: try, Obj: 7},
	"exit 0":         {Kind: exit},
	"exit 2":         {Kind: exit, Obj: 2},
	"exit 7":         {Kind: exit, Obj: 7},
	"wait 0":         {Kind: wait},
	"wait 3":         {Kind: wait, Obj: 3},
	"wait 7":         {Kind: wait, Obj: 7},
	"wait 0 1":       {Kind: wait, Arg: 1},
	"wait 5 9":       {Kind: wait, Obj: 5, Arg: 9},
	"wait 7 10":      {Kind: wait, Obj: 7, Arg: 10},
	"wait 0 255":     {Kind: wait, Arg: 255},
	"wait 0 256":     {Kind: wait, Arg: 256},
	"wait 0 65535":   {Kind: wait, Arg: 65535},
	"wait 0 65536":   {Kind: wait, Arg: 65536},
	"wait 1 1000000": {Kind: wait, Obj: 1, Arg: 1000000},
	"wait 7 100":     {Kind: wait, Obj: 7, Arg: 100},
	"wait 2 987654":  {Kind: wait, Obj: 2, Arg: 987654},
	"notify 0":       {Kind: notify},
	"notify 4":       {Kind: notify, Obj: 4},
	"notify 7":       {Kind: notify, Obj: 7},
	"all 0":          {Kind: all},
	"all 5":          {Kind: all, Obj: 5},
	"all 7":          {Kind: all, Obj: 7},
	"hash 0":         {Kind: hash},
	"hash 6":         {Kind: hash, Obj: 6},
	"hash 7":         {Kind: hash, Obj: 7},
	"holds 0":        {Kind: holds},
	"holds 3":        {Kind: holds, Obj: 3},
	"holds 7":        {Kind: holds, Obj: 7},
	"interrupt 0":    {Kind: interrupt},
	"interrupt 1":    {Kind: interrupt, Arg: 1},
	"interrupt 7":    {Kind: interrupt, Arg: 7},
}

// P16.1, P16.4, P16.5: each kind as a text of one operation, and in a program.
func TestTextsOfOne(t *testing.T) {
	for s, o := range singles {
		textIs(t, []api.Op{o}, s, api.OK)
		parseIs(t, s, []api.Op{o}, api.OK)
		longer := []api.Op{{Kind: enter, Obj: 3}, o, o, {Kind: wait, Obj: 3, Arg: 70}}
		text := "enter 3; " + s + "; " + s + "; wait 3 70"
		textIs(t, longer, text, api.OK)
		parseIs(t, text, longer, api.OK)
	}
}

// P16.1: the empty program and the empty text.
func TestTextOfNone(t *testing.T) {
	for _, prog := range [][]api.Op{nil, {}} {
		textIs(t, prog, "", api.OK)
	}
	parseIs(t, "", nil, api.OK)
}

// P16.1: 64 operations and 65, and many more.
func TestTextsOfMany(t *testing.T) {
	for s, o := range singles {
		for _, many := range []int{2, 63, 64} {
			textIs(t, slices.Repeat([]api.Op{o}, many), times(many, s), api.OK)
			parseIs(t, times(many, s), slices.Repeat([]api.Op{o}, many), api.OK)
		}
		for _, many := range []int{65, 66, 128, 1000} {
			textIs(t, slices.Repeat([]api.Op{o}, many), "", api.ErrMany)
			parseIs(t, times(many, s), nil, api.ErrMany)
		}
	}
}

// P16.1: an operation that may not be has no text, wherever it stands; more than 64
// are told of ahead of it.
func TestTextOfWhatMayNotBe(t *testing.T) {
	for _, o := range wrongOps() {
		for _, many := range []int{1, 2, 3, 63, 64, 65, 66} {
			for _, at := range []int{0, many / 2, min(many, 64) - 1, many - 1} {
				prog := slices.Repeat([]api.Op{{Kind: enter, Obj: 1}}, many)
				prog[at] = o
				want := api.ErrArg
				if many > 64 {
					want = api.ErrMany
				}
				textIs(t, prog, "", want)
			}
		}
	}
}

// noTexts are no operations' texts.
var noTexts = []string{
	// Noughts ahead, signs, no digits, what is none.
	"enter 00", "enter 01", "enter 07", "enter 000000000", "interrupt 00", "interrupt 01", "wait 00", "wait 01 5", "wait 0 05", "wait 0 00", "wait 0 01", "wait 0 0000001",
	"enter +1", "enter -1", "enter -0", "enter +0", "interrupt -1", "interrupt +1", "wait -1", "wait +1", "wait 0 -1", "wait 0 +1", "wait 0 -0",
	"enter", "enter ", "wait", "wait ", "interrupt", "interrupt ", "wait 0 ", "wait  5", "hash x", "hash 1x", "hash x1", "hash 1.0", "hash 1e0", "hash 0x1", "hash 1_0", "hash /", "hash :", "hash 1/", "hash 1:", "wait 0 x", "wait 0 5x", "wait 0 x5", "wait 0 /", "wait 0 :",
	// A Wait for ever has no Arg.
	"wait 0 0", "wait 7 0", "wait 8 0",
	// Numbers of ten digits and of more.
	"enter 1000000000", "enter 9999999999", "enter 0000000000", "enter 4294967296", "enter 18446744073709551616", "enter 18446744073709551617", "interrupt 1000000000", "wait 1000000000", "wait 0 1000000000", "wait 0 4294967297", "wait 0 18446744073709551621", "wait 1000000000 5", "wait 0 " + strings.Repeat("9", 1000), "enter " + strings.Repeat("0", 1000),
	// Words that are none.
	"none 0", "ente 0", "enter0", "enterr 0", "xenter 0", "waits 0", "notifyall 0", "notifies 0", "begin 0", "leave 0", "end 0", "wake 0", "0", "0 0", "1 0", "all", "a 0", "x", ";", "; ;", "-", "enter\x000", "enter\x00 0", "\x00enter 0",
	// Capital letters.
	"Enter 0", "ENTER 0", "enteR 0", "Wait 0 5", "Interrupt 0", "ALL 0", "hasH 0",
	// Blanks.
	"enter  0", " enter 0", "enter 0 ", "  enter 0", "enter 0  ", "enter\t0", "enter\n0", "\tenter 0", "enter 0\n", "enter 0\r", "enter\u00a00", "enter 0\u00a0", "wait 0  5", "wait  0 5", "wait 0 5 ", " wait 0 5", "wait 0\t5", "wait 0 5\n", " ", "  ", "\t", "\n", "wait 0 5 5", "wait 0 5 0", "wait 0  ", " 0", "  0", " 5 5",
	// An Arg behind a word that takes none.
	"enter 0 1", "enter 0 0", "try 0 5", "exit 0 1", "notify 0 1", "all 0 1", "hash 0 1", "holds 0 1", "interrupt 0 1", "interrupt 0 0", "interrupt 5 5", "enter 0 ", "interrupt 0 ",
	// Letters of more than one byte, and bytes that are no letters.
	"enter ０", "enter ７", "enter ٠", "enter ²", "enter 0é", "énter 0", "ｅnter 0", "enter\u20030", "wait 0 ５", "wait 0 1５", "wait 0 ١", "hash \u0130", "enter \xb1", "enter 0\xff", "enter \xff", "\xffenter 0", "enter\xff0", "\xff", "\xc3\x28", "wait 0 \x80", "wait 0 5\x80", "\x80", "enter \x00", "enter 0\x00", "\xef\xbb\xbfenter 0", "enter \xf0", "enter \xed\xa0\x80", "enter \x30\x00", "\u212aenter 0", "ha\u017fh 0", "enter \x1b",
	// What stands between operations, but not so.
	"enter 0;", ";enter 0", "enter 0;exit 0", "enter 0 ;exit 0", "enter 0, exit 0", "enter 0:exit 0", "enter 0;\texit 0", "enter 0;\nexit 0", "enter 0;\u00a0exit 0", "enter 0\nexit 0", "enter 0 exit 0", "enter 0；exit 0",
}

// mayNots are operations' texts, of such as may not be.
var mayNots = []string{
	"enter 8", "try 8", "exit 8", "wait 8", "notify 8", "all 8", "hash 8", "holds 8", "interrupt 8", "enter 9", "enter 10", "enter 16", "enter 17", "enter 255", "enter 256", "enter 257", "enter 65536", "enter 999999999", "enter 123456789", "interrupt 9", "interrupt 10", "interrupt 256", "interrupt 999999999",
	"wait 8 5", "wait 999999999", "wait 999999999 5", "wait 999999999 999999999", "wait 0 1000001", "wait 7 1000001", "wait 0 1000002", "wait 0 2000000", "wait 0 10000000", "wait 0 16777217", "wait 0 999999999", "wait 8 1000001",
}

// P16.1: what is no operation's text, and what is one of such as may not be: alone,
// and among others.
func TestTextsThatAreWrong(t *testing.T) {
	for err, texts := range map[api.Errno][]string{api.ErrForm: noTexts, api.ErrArg: mayNots} {
		for _, s := range texts {
			for _, text := range []string{s, "wait 3 9; " + s, s + "; wait 3 9", "hash 1; " + s + "; interrupt 2", times(63, "enter 0") + "; " + s, s + "; " + times(63, "enter 0")} {
				if _, want := parsed(text); want != err {
					t.Fatalf("%q should be %d, but is %d", text, err, want)
				}
				parseIs(t, text, nil, err)
			}
		}
	}
}

// P16.1: parts that are empty, and blanks where `; ` begins or ends.
func TestPartsThatAreNone(t *testing.T) {
	for _, text := range []string{
		"; ", "; ; ", ";; ", " ; ", "; enter 0", "; ; enter 0", "enter 0; ", "enter 0; ; ", "enter 0; ; exit 0", "enter 0;; exit 0", "enter 0; ;exit 0", "enter 0;  exit 0", "enter 0 ; exit 0", "enter 0; exit 0;", "enter 0; exit 0; ", "enter 0; exit 0 ", " enter 0; exit 0", ";; enter 0", " ; enter 0", "enter 0; exit", "enter; exit 0", "enter 0; 0", "0; enter 0", "enter ; exit 0",
		times(64, "enter 0") + ";", times(63, "enter 0") + "; ", " " + times(64, "enter 0"), times(64, "enter 0") + " ", times(65, ""), times(1000, ""),
	} {
		parseIs(t, text, nil, api.ErrForm)
	}
	for _, text := range []string{times(64, "enter 0") + "; ", times(64, "enter 0") + "; ; ", times(64, "enter 0") + "; " + times(1000, "")} {
		parseIs(t, text, nil, api.ErrMany)
	}
}

// P16.1: where several are wrong, the first one is told.
func TestWhichErrorOfATextIsTold(t *testing.T) {
	const right, form, arg = "enter 0", "enter 00", "enter 8"
	for text, want := range map[string]api.Errno{
		form + "; " + arg:                api.ErrForm,
		arg + "; " + form:                api.ErrArg,
		right + "; " + form + "; " + arg: api.ErrForm,
		right + "; " + arg + "; " + form: api.ErrArg,
		arg + "; ":                       api.ErrArg,
		"; " + arg:                       api.ErrForm,
		arg + ";":                        api.ErrForm,

		times(64, right) + "; " + form: api.ErrMany,
		times(64, right) + "; " + arg:  api.ErrMany,
		times(65, right) + "; " + form: api.ErrMany,
		times(65, right) + "; " + arg:  api.ErrMany,
		times(200, right) + "; " + arg: api.ErrMany,
		times(63, right) + "; " + form: api.ErrForm,
		times(63, right) + "; " + arg:  api.ErrArg,

		form + "; " + times(64, right):                        api.ErrForm,
		arg + "; " + times(64, right):                         api.ErrArg,
		times(63, right) + "; " + form + "; " + right:         api.ErrForm,
		times(63, right) + "; " + arg + "; " + right:          api.ErrArg,
		times(63, right) + "; " + form + "; " + arg:           api.ErrForm,
		times(63, right) + "; " + arg + "; " + form:           api.ErrArg,
		times(30, right) + "; " + arg + times(300, form):      api.ErrForm,
		times(30, right) + "; " + arg + "; " + times(9, form): api.ErrArg,
		times(100, form): api.ErrForm,
		times(100, arg):  api.ErrArg,
	} {
		parseIs(t, text, nil, want)
	}
}

// P16.1: which error of a program is told is not by where it stands: 65 are told of
// ahead of one that may not be.
func TestWhichErrorOfAProgramIsTold(t *testing.T) {
	for at := range 66 {
		for many := at + 1; many <= 66; many++ {
			prog := slices.Repeat([]api.Op{{Kind: hash}}, many)
			prog[at].Obj = 8
			want := api.ErrArg
			if many > 64 {
				want = api.ErrMany
			}
			textIs(t, prog, "", want)
			packIs(t, prog, nil, want)
		}
	}
}

// P16.4, P16.5: programs of no pattern are written and read back, and read and written
// back.
func TestWrittenAndRead(t *testing.T) {
	n := numbers(4)
	for many := range 65 {
		for range 40 {
			prog := n.prog(many, 1000000)
			s := written(prog)
			textIs(t, prog, s, api.OK)
			parseIs(t, s, prog, api.OK)
		}
	}
}

// P16.4: each operation that may be is written and read back, and no two have one text.
func TestEachIsWrittenAndRead(t *testing.T) {
	seen := map[string]bool{}
	for kind := 1; kind <= 9; kind++ {
		for obj := range 8 {
			for arg := range 3000 {
				o := api.Op{Kind: kind, Obj: obj, Arg: arg}
				if !isOneOfAll(o) {
					continue
				}
				s, err := op.Text([]api.Op{o})
				if err != api.OK || seen[s] {
					t.Fatalf("the text of %v is %q, %d, another's too: %v", o, s, err, seen[s])
				}
				seen[s] = true
				if prog, err := op.Parse(s); err != api.OK || len(prog) != 1 || prog[0] != o {
					t.Fatalf("Parse(%q) is %v, %d", s, prog, err)
				}
			}
		}
	}
	if want := 7*8 + 8*3000 + 8; len(seen) != want {
		t.Errorf("there are %d texts, not %d", len(seen), want)
	}
}

// looks looks at a text by the second reckoning, and, if it is a program's, at what is
// written of it.
func looks(t *testing.T, s string) {
	t.Helper()
	want, wantErr := parsed(s)
	parseIs(t, s, want, wantErr)
	if wantErr == api.OK {
		textIs(t, want, s, api.OK)
	}
}

// P16.1, P16.5: all texts that are one byte away from some: one left out, one put in,
// one another, and two of them changed.
func TestTextsNextToRightOnes(t *testing.T) {
	bytes := []byte("0189-+ ;\tenxwaitEW\x00\x7f\x80\xff")
	for _, s := range []string{"enter 0", "wait 7 10", "interrupt 7", "enter 0; wait 0 5; exit 0", "all 1; holds 2", "wait 3; hash 4", "wait 0 999999", "notify 6; try 7"} {
		for at := range len(s) {
			looks(t, s[:at]+s[at+1:])
			for _, b := range bytes {
				looks(t, s[:at]+string([]byte{b})+s[at+1:])
				looks(t, s[:at]+string([]byte{b})+s[at:])
			}
			if at > 0 {
				looks(t, s[:at-1]+s[at:at+1]+s[at-1:at]+s[at+1:])
			}
			looks(t, s[:at])
			looks(t, s[at:])
		}
		for _, b := range bytes {
			looks(t, s+string([]byte{b}))
		}
	}
}

// P16.1, P16.5: texts of no pattern, of pieces of right ones and of wrong ones.
func TestTextsOfPieces(t *testing.T) {
	pieces := []string{"enter ", "try ", "exit ", "wait ", "notify ", "all ", "hash ", "holds ", "interrupt ", "; ", "; ", "; ", "; ", ";", "0", "0", "1", "7", "8", "1000000", "1000001", " ", "-", "\xff", "Enter"}
	n := numbers(5)
	right := 0
	for range 100000 {
		var b strings.Builder
		for range 1 + n.below(6) {
			b.WriteString(pieces[n.below(len(pieces))])
		}
		looks(t, b.String())
		if _, err := parsed(b.String()); err == api.OK {
			right++
		}
	}
	for range 20000 {
		var parts []string
		for range n.below(5) {
			text := written(n.prog(1, 20))
			switch n.below(8) {
			case 0:
				text = noTexts[n.below(len(noTexts))]
			case 1:
				text = mayNots[n.below(len(mayNots))]
			}
			parts = append(parts, text)
		}
		looks(t, strings.Join(parts, "; "))
	}
	if right < 100 {
		t.Errorf("just %d texts are right", right)
	}
}

// P16.1: what Parse answered is the caller's: it does not change what another call
// answers, nor is its list another's.
func TestProgramsAreTheCallers(t *testing.T) {
	const s = "enter 1; wait 1 5; exit 1"
	a, _ := op.Parse(s)
	b, _ := op.Parse(s)
	a[0] = api.Op{Kind: 50}
	a = append(a[:1], api.Op{Kind: 51}, api.Op{Kind: 52})
	if !slices.Equal(b, ops(t, s)) {
		t.Errorf("a program that was changed is another one: %v", b)
	}
	parseIs(t, s, ops(t, s), api.OK)
	if len(a) != 3 {
		t.Errorf("a is %v", a)
	}
}
