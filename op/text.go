package op

import (
	"strconv"
	"strings"

	"futtock/api"
)

const (
	// between stands between two operations, blank between an operation's parts.
	between = "; "
	blank   = " "
	// mostDigits is how many digits a number has at most.
	mostDigits = 9
)

// words are the kinds' words.
var words = [...]string{
	Enter:     "enter",
	Try:       "try",
	Exit:      "exit",
	Wait:      "wait",
	Notify:    "notify",
	All:       "all",
	Hash:      "hash",
	Holds:     "holds",
	Interrupt: "interrupt",
}

// Text is a program's text.
func Text(prog []api.Op) (string, api.Errno) {
	if err := wrong(prog); err != api.OK {
		return "", err
	}
	parts := make([]string, 0, len(prog))
	for _, o := range prog {
		parts = append(parts, part(o))
	}
	return strings.Join(parts, between), api.OK
}

// Parse is a text's program.
func Parse(s string) ([]api.Op, api.Errno) {
	if s == "" {
		return nil, api.OK
	}
	var prog []api.Op
	for text := range strings.SplitSeq(s, between) {
		if len(prog) == api.MaxOps {
			return nil, api.ErrMany
		}
		o, ok := read(text)
		if !ok {
			return nil, api.ErrForm
		}
		if !mayBe(o) {
			return nil, api.ErrArg
		}
		prog = append(prog, o)
	}
	return prog, api.OK
}

// part is the text of an operation that may be.
func part(o api.Op) string {
	n := o.Obj
	if o.Kind == Interrupt {
		n = o.Arg
	}
	text := words[o.Kind] + blank + strconv.Itoa(n)
	if o.Kind == Wait && o.Arg > 0 {
		text += blank + strconv.Itoa(o.Arg)
	}
	return text
}

// read is the operation of a text, and tells whether the text is one's.
func read(text string) (api.Op, bool) {
	word, rest, _ := strings.Cut(text, blank)
	digits, ticks, hasTicks := strings.Cut(rest, blank)
	kind := kindOf(word)
	n, ok := number(digits)
	switch {
	case kind == none || !ok:
		return api.Op{}, false
	case hasTicks:
		arg, ok := number(ticks)
		// A Wait for ever is written without its Arg, which is 0.
		return api.Op{Kind: kind, Obj: n, Arg: arg}, kind == Wait && ok && arg > 0
	case kind == Interrupt:
		return api.Op{Kind: kind, Arg: n}, true
	}
	return api.Op{Kind: kind, Obj: n}, true
}

// kindOf is the kind that has a word.
func kindOf(word string) int {
	for kind := Enter; kind <= Interrupt; kind++ {
		if words[kind] == word {
			return kind
		}
	}
	return none
}

// number is the number that digits are, and tells whether they are one's.
func number(digits string) (int, bool) {
	if digits == "" || len(digits) > mostDigits || digits[0] == '0' && digits != "0" {
		return 0, false
	}
	n := 0
	for _, digit := range digits {
		if digit < '0' || digit > '9' {
			return 0, false
		}
		n = n*10 + int(digit-'0')
	}
	return n, true
}
