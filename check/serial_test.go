package check_test

import (
	"testing"

	"futtock/check"
)

// takes tells if Serial of calls is not so many, which is all of them or not.
func takes(t testing.TB, w world, l []check.Call, many int) {
	t.Helper()
	for range 2 {
		n, ok := check.Serial(w.threads, w.objects, w.most, l)
		if n != many || ok != (many == len(l)) {
			t.Errorf("%+v: Serial of %s is %d, %v, not %d", w, texts(l), n, ok, many)
		}
	}
}

// P23.2: how many from the first one on the model takes, and whether that is all.
func TestSerial(t *testing.T) {
	for _, x := range []struct {
		name, text string
		want       int
	}{
		{"none", "", 0},
		{"all", "0 enter 0 0..1; 1 try 0 busy 2..3; 0 exit 0 4..5; 1 enter 0 6..7; 1 hash 1 #7 8..9; 0 interrupt 0 #1 10..11", 6},
		{"the first one is not taken", "0 exit 0 0..1; 0 enter 0 2..3; 0 exit 0 4..5", 0},
		{"the middle one is not", "0 enter 0 0..1; 1 exit 0 2..3; 0 exit 0 4..5", 1},
		{"the last one is not", "0 enter 0 0..1; 0 exit 0 2..3; 0 exit 0 4..5", 2},
		{"two are not", "0 enter 0 0..1; 1 exit 0 2..3; 1 enter 0 4..5; 0 exit 0 6..7", 1},
		{"one alone", "0 enter 0 0..1", 1},
		{"one alone that is not", "0 enter 0 over 0..1", 0},
		{"a thread that there is not", "0 enter 0 0..1; 2 enter 1 2..3", 1},
		{"an object that there is not", "0 enter 0 0..1; 1 enter 2 2..3", 1},
	} {
		t.Run(x.name, func(t *testing.T) { takes(t, world{2, 2, 2}, calls(t, x.text), x.want) })
	}
}

// P23.2: the calls are taken as they stand, whatever their times.
func TestSerialAsTheyStand(t *testing.T) {
	for _, x := range []struct {
		text string
		want int
	}{
		{"0 enter 0 8..9; 0 exit 0 0..1", 2},
		{"0 exit 0 0..1; 0 enter 0 8..9", 0},
		{"0 exit 0 0..9; 0 enter 0 0..9", 0},
		{"0 enter 0 0..9; 0 exit 0 0..9", 2},
		{"0 enter 0 9..0; 0 exit 0 5..5", 2},
		{"0 enter 0 -5..-5; 0 exit 0 5..-5; 0 exit 0 1..2", 2},
	} {
		takes(t, world{2, 2, 2}, calls(t, x.text), x.want)
	}
}

// P23.2: transitions that are no calls here the model takes all the same: a Begin, a
// Leave, an End, a Wake, a Notify that tells a thread, a Hash that is ErrOut.
func TestSerialOfTransitionsThatAreNoCalls(t *testing.T) {
	for _, x := range []struct {
		text string
		want int
	}{
		{"0 enter 0 0..1; 0 begin 0 0..1; 1 enter 0 0..1; 1 wake 0 #0 0..1; 1 notify 0 #0 0..1; 1 exit 0 0..1; 0 end 0 0..1; 0 exit 0 0..1", 8},
		{"0 enter 0 0..1; 0 begin 0 0..1; 0 leave 0 time 0..1; 0 end 0 time 0..1; 0 exit 0 0..1; 0 exit 0 0..1", 5},
		{"0 enter 0 0..1; 0 interrupt 0 #0 0..1; 0 begin 0 intr 0..1; 0 begin 0 intr 0..1", 3},
		{"0 enter 0 0..1; 0 begin 0 0..1; 0 enter 0 0..1", 2},
		{"0 enter 0 0..1; 0 wake 0 #1 0..1; 0 exit 0 0..1", 1},
		{"0 begin 0 state 0..1; 0 begin 0 0..1", 1},
		{"0 enter 0 0..1; 1 hash 0 out 0..1; 0 exit 0 0..1; 1 hash 0 out 0..1", 3},
		{"0 enter 0 0..1; 0 notify 0 #1 0..1; 0 notify 0 #-2 0..1", 2},
		{"0 leave 0 time 0..1", 0},
		{"0 end 0 0..1", 0},
	} {
		takes(t, world{2, 2, 2}, calls(t, x.text), x.want)
	}
	none := calls(t, "0 enter 0 0..1; 0 enter 0 0..1; 0 exit 0 0..1")
	none[1].Event.Kind = 0
	takes(t, world{2, 2, 2}, none, 1)
	none[1].Event.Kind = 13
	takes(t, world{2, 2, 2}, none, 1)
}

// P23.2: there may be more calls than Can takes: the greatest count is come to, and no
// more.
func TestSerialOfMany(t *testing.T) {
	enter := calls(t, "7 enter 7 0..1")
	over := calls(t, "7 enter 7 over 0..1")
	exit := calls(t, "7 exit 7 0..1")
	var l []check.Call
	for range 60 {
		l = append(l, enter...)
	}
	takes(t, greatest, l, 60)
	takes(t, greatest, append(l[:60:60], enter...), 60)
	takes(t, greatest, append(l[:60:60], over...), 61)
	takes(t, greatest, append(l[:59:59], over...), 59)
	for range 60 {
		l = append(l, exit...)
	}
	takes(t, greatest, l, 120)
	takes(t, greatest, append(l, exit...), 120)
	var many []check.Call
	for range 1000 {
		many = append(many, l...)
	}
	takes(t, greatest, many, 120000)
}

// P23.2: of no such model 0 and false, of no calls, too.
func TestSerialOfNoModel(t *testing.T) {
	for _, w := range noWorlds() {
		for _, l := range [][]check.Call{nil, {}, calls(t, "0 enter 0 0..1"), calls(t, "0 exit 0 0..1"), make([]check.Call, 13)} {
			if n, ok := check.Serial(w.threads, w.objects, w.most, l); n != 0 || ok {
				t.Errorf("%+v: Serial of %s is %d, %v", w, texts(l), n, ok)
			}
		}
	}
	for _, l := range [][]check.Call{nil, {}} {
		for _, w := range []world{{1, 1, 1}, greatest} {
			takes(t, w, l, 0)
		}
	}
}
