package reads_test

import (
	"math"
	"math/rand"
	"strings"
	"testing"

	"scoria/api"
	"scoria/code"
	"scoria/explore"
	"scoria/reads"
)

// allOf is what all schedules ask for.
func allOf(t *testing.T, c api.Code, args []int, most int) reads.Reads {
	t.Helper()
	l, e := reads.All(c, args, most)
	if e != api.OK {
		t.Fatalf("P13.2: the error %d for %v, the arguments %v and most %d", e, c, args, most)
	}
	return l
}

// P13.2: what all schedules ask for, written by hand, with just as many states as there are.
func TestAllScenes(t *testing.T) {
	long := "0 0: " + strings.Repeat("push 0, drop, ", 1000) + "push 0, return"
	for _, x := range []struct {
		name string
		code api.Code
		args []int
		want string
	}{
		{"the example with 3", choice(t), []int{3}, "0 1 2 3 7 8 9 10"},
		{"the example with -3", choice(t), []int{-3}, "0 1 2 3 4 5 6 9 10"},
		{"a process that waits for ever in the first state", codeOf(t, 1, "0 0: push 1, drop, recv 0, return"), nil, "0 1 2"},
		{"what vm.New alone asks for", codeOf(t, 0, "0 0: jump 3, push 1, return, push 2, not, drop, jump 1", "0 0: push 0, return"), nil, "0 1 2 3 4 5 6 | "},
		{"a channel that is full", codeOf(t, 1, "0 0: push 1, send 0, push 2, send 0, push 3, send 0, push 4, return"), nil, "0 1 2 3 4 5"},
		{"two processes that show a number each", codeOf(t, 0, "0 0: spawn 1 0, push 1, out, push 0, return", "0 0: push 2, out, push 0, return"), nil, "0 1 2 3 4 | 0 1 2 3"},
		{"either of two numbers comes first", codeOf(t, 1, "0 0: spawn 1 0, push 1, send 0, recv 0, false 7, push 1, out, push 0, return", "0 0: push 0, send 0, push 0, return"), nil, "0 1 2 3 4 5 6 7 8 | 0 1 2 3"},
		{"the process that receives nothing stays before it", codeOf(t, 1, "0 0: spawn 1 0, push 7, send 0, recv 0, drop, push 1, return", "0 0: recv 0, drop, push 2, return"), nil, "0 1 2 3 4 5 6 | 0 1 2 3"},
		{"a number that is shown for ever", codeOf(t, 0, "0 0: push 1, out, jump 0, push 0, return"), nil, "0 1 2"},
		{"a call that never returns", codeOf(t, 0, "0 0: call 1 0, return", "0 0: push 3, out, push 4, throw"), nil, "0 | 0 1 2 3"},
		{"handlers", codeOf(t, 0, "1 2: try 5 1, push 6, load 0, op 3, throw, load 1, out, push 0, return"), []int{0}, "0 1 2 3 5 6 7 8"},
		{"turns that are long, one of which starts a process", codeOf(t, 0, "0 0: push 1, out, call 1 0, drop, spawn 2 0, call 1 0, return", long, "0 0: call 3 0, return", long), nil, "0 1 2 3 4 5 6 | " + from(0, 2001) + " | 0 1 | " + from(0, 2001)},
	} {
		g, _ := explore.All(x.code, x.args, 1024)
		n := len(g.States)
		if l, e := reads.All(x.code, x.args, n); e != api.OK || told(l) != x.want {
			t.Errorf("P13.2: %s: the error %d, and %s instead of %s", x.name, e, told(l), x.want)
		}
		if l, e := reads.All(x.code, x.args, n-1); e == api.OK || !none(l) {
			t.Errorf("P13.2: %s: the error %d, and %v, with one of %d states too many", x.name, e, l, n)
		}
	}
}

// shows is code of one process that shows 0 as many times, and ends: with two more states.
func shows(t *testing.T, n int) api.Code {
	t.Helper()
	return codeOf(t, 0, "0 0: "+strings.Repeat("push 0, out, ", n)+"push 0, return")
}

// P13.2: the numbers of states that are allowed, too few, and just enough.
func TestMost(t *testing.T) {
	for _, x := range []struct {
		shown int // with two more states
		most  int
		want  api.Errno
	}{
		{0, -1, api.ErrArg}, {0, 0, api.ErrArg}, {0, 1, api.ErrLimit}, {0, 2, api.OK}, {0, 3, api.OK}, {0, 1024, api.OK}, {0, 1025, api.ErrArg}, {0, math.MaxInt, api.ErrArg}, {0, math.MinInt, api.ErrArg},
		{8, 0, api.ErrArg}, {8, 9, api.ErrLimit}, {8, 10, api.OK}, {8, 11, api.OK}, {8, 1024, api.OK}, {8, 1025, api.ErrArg},
		{1022, 1, api.ErrLimit}, {1022, 1023, api.ErrLimit}, {1022, 1024, api.OK}, {1022, 1025, api.ErrArg},
		{1023, 1024, api.ErrLimit}, {1023, 1025, api.ErrArg},
	} {
		l, e := reads.All(shows(t, x.shown), nil, x.most)
		want := ""
		if x.want == api.OK {
			want = from(0, 2*x.shown+1)
		}
		if e != x.want || told(l) != want {
			t.Errorf("P13.2: the error %d, and %s, for %d states and most %d", e, told(l), x.shown+2, x.most)
		}
	}
	alone := codeOf(t, 1, "0 0: recv 0, return")
	for most, want := range map[int]api.Errno{0: api.ErrArg, 1: api.OK, 1024: api.OK, 1025: api.ErrArg} {
		if l, e := reads.All(alone, nil, most); e != want || none(l) != (want != api.OK) {
			t.Errorf("P13.2: the error %d, and %v, for one state and most %d", e, l, most)
		}
	}
}

// P13.2: arguments that function 0 cannot be called with.
func TestAllArguments(t *testing.T) {
	c := codeOf(t, 0, "2 3: load 0, load 1, op 0, out, load 2, return")
	for _, args := range [][]int{nil, {}, {1}, {1, 2, 3}, {-9, 0}, {0, -9}, {8, 0}, {0, 8}, {1 << 62, 0}, {0, math.MinInt}, {16, 0}} {
		for _, most := range []int{0, 1, 3, 1025} {
			if l, e := reads.All(c, args, most); e != api.ErrArg || !none(l) {
				t.Errorf("P13.2: the error %d, and %v, for the arguments %v and most %d", e, l, args, most)
			}
		}
	}
	for _, args := range [][]int{{-8, -8}, {7, 7}, {-8, 7}} {
		if l, e := reads.All(c, args, 3); e != api.OK || told(l) != "0 1 2 3 4 5" {
			t.Errorf("P13.2: the error %d, and %v, for the arguments %v", e, l, args)
		}
	}
}

// P13.2: the fuel of vm.New, and that of a turn, are used up.
func TestAllFuel(t *testing.T) {
	// Two calls of it have 4092 instructions, less the last one that is visible.
	long := "0 0: " + strings.Repeat("push 0, drop, ", 1022) + "push 0, return"
	for _, x := range []struct {
		name string
		code api.Code
		want api.Errno
	}{
		{"vm.New", codeOf(t, 0, "0 0: push 1, drop, jump 0"), api.ErrFuel},
		{"a jump to itself", codeOf(t, 0, "0 0: jump 0"), api.ErrFuel},
		{"a turn", codeOf(t, 0, "0 0: push 1, out, push 2, drop, jump 2"), api.ErrFuel},
		{"a turn of a process that was started", codeOf(t, 0, "0 0: spawn 1 0, push 1, return", "0 0: push 1, out, jump 2"), api.ErrFuel},
		{"a process that is started", codeOf(t, 0, "0 0: spawn 1 0, push 1, return", "0 0: jump 0"), api.ErrFuel},
		{"a turn of 4096", codeOf(t, 0, "0 0: push 1, out, call 1 0, drop, call 1 0, not, not, return", strings.Replace(long, "push 0, drop, ", "", 1)), api.OK},
		{"as much in vm.New", codeOf(t, 0, "0 0: call 1 0, drop, call 1 0, not, return", long), api.OK},
		{"a little more in vm.New", codeOf(t, 0, "0 0: call 1 0, drop, call 1 0, not, not, return", long), api.ErrFuel},
	} {
		_, want := explore.All(x.code, nil, 100)
		l, e := reads.All(x.code, nil, 100)
		if e != x.want || want != x.want || none(l) != (want != api.OK) {
			t.Errorf("P13.2: %s: the error %d instead of %d, and %v", x.name, e, want, l)
		}
	}
}

// P13.2: code that is not valid, whatever else is wrong.
func TestAllOfBrokenCode(t *testing.T) {
	for name, c := range broken(t) {
		for _, args := range [][]int{{3}, nil, {8}} {
			for _, most := range []int{0, 1, 100, 1025} {
				if l, e := reads.All(c, args, most); e != api.ErrArg || !none(l) {
					t.Errorf("P13.2: %s: the error %d, and %v, for the arguments %v and most %d", name, e, l, args, most)
				}
			}
		}
	}
	// code that is not valid, although there are all its states
	c := codeOf(t, 0, "0 0: push 1, return, push 2, return")
	c.Funs[0].Body[2].A = 8
	if g, e := explore.All(c, nil, 100); e != api.OK || len(g.States) != 2 || code.Valid(c) {
		t.Fatalf("P12.1: the error %d, and %v", e, g)
	}
	if l, e := reads.All(c, nil, 100); e != api.ErrArg || !none(l) {
		t.Errorf("P13.2: the error %d, and %v", e, l)
	}
	loop := codeOf(t, 0, "0 0: jump 0, push 2, return")
	loop.Funs[0].Body[1].A = 8
	if l, e := reads.All(loop, nil, 100); e != api.ErrArg || !none(l) {
		t.Errorf("P13.2: the error %d, and %v, for a loop", e, l)
	}
}

// P13.2: codes of all kinds.
func TestAllPlain(t *testing.T) {
	r := rand.New(rand.NewSource(133))
	clear(seen)
	for _, c := range someCodes(t, r, 250) {
		args := anyArgs(r, c)
		if r.Intn(20) == 0 {
			args = append(args, 8)
		}
		l, e := expectPlainAll(t, c, args, 1+r.Intn(60))
		count(e == api.ErrArg, "wrong arguments")
		count(e == api.ErrLimit, "too many states")
		count(e == api.ErrFuel, "used up")
		count(e == api.OK && len(l.Funs) > 1 && len(l.Funs[1]) > 0, "several functions")
	}
	for range 300 {
		c := anyThreads(t, r)
		l, e := expectPlainAll(t, c, nil, 100)
		count(e == api.OK && told(l) != told(of(t, c, ran(t, c, nil, nil, 4096), 4096)), "more than the first run")
	}
	expectSeen(t, 10, "wrong arguments", "too many states", "used up", "several functions", "more than the first run")
}
