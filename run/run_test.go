package run_test

import (
	"math"
	"slices"
	"strconv"
	"strings"
	"testing"

	"scoria/api"
	"scoria/run"
)

// P11.1: the example of the chapter, with all fuels: used up in vm.New (0), just at a turn's end (1, 3), and after an event (2).
func TestExample(t *testing.T) {
	c := codeOf(t, 0, "0 0: push 3, out, push 5, return")
	expectScenes(t, c, []scene{
		{"the fuel 10", nil, nil, 10, "[] [0 0] 0 out 3, 0 end 5; done 4"},
		{"the fuel 1", nil, nil, 1, "[] [0] ; fuel 1"},
		{"the fuel 0", nil, nil, 0, "[] [] ; fuel 0"},
		{"the fuel 2", nil, nil, 2, "[] [0] 0 out 3; fuel 2"},
		{"the fuel 3", nil, nil, 3, "[] [0 0] 0 out 3; fuel 3"},
		{"the fuel 4", nil, nil, 4, "[] [0 0] 0 out 3, 0 end 5; done 4"},
		{"the fuel 5", nil, nil, 5, "[] [0 0] 0 out 3, 0 end 5; done 4"},
		{"the fuel 4096", nil, nil, 4096, "[] [0 0] 0 out 3, 0 end 5; done 4"},
	})
}

// P11.1: programs of one process, and their arguments.
func TestSequential(t *testing.T) {
	adder := made(t, "program 0 fun 1 (int) { return (v0 + 1) }")
	expectScenes(t, adder, []scene{
		{"a word", []int{3}, nil, 100, "[3] [0] 0 end 4; done 4"},
		{"the least word", []int{-8}, nil, 100, "[-8] [0] 0 end -7; done 4"},
		{"the greatest word", []int{7}, nil, 100, "[7] [0] 0 end -8; done 4"},
		{"fuel for vm.New alone", []int{3}, nil, 3, "[3] [0] ; fuel 3"},
		{"no fuel for vm.New", []int{3}, nil, 2, "[3] [] ; fuel 2"},
	})
	three := made(t, "program 0 fun 3 (int, bool, int) { out v2 return (v0 - v2) }")
	expectScenes(t, three, []scene{
		{"three arguments", []int{1, 5, -2}, nil, 100, "[1 5 -2] [0 0] 0 out -2, 0 end 3; done 6"},
		{"the order of arguments", []int{-2, 0, 1}, []int{0, 0}, 100, "[-2 0 1] [0 0] 0 out 1, 0 end -3; done 6"},
	})
	fault := made(t, "program 0 fun 1 (int) { out v0 throw (1 / v0) }")
	expectScenes(t, fault, []scene{
		{"a code of its own", []int{1}, nil, 100, "[1] [0 0] 0 out 1, 0 fault 1; done 6"},
		{"a division by 0", []int{0}, nil, 100, "[0] [0 0] 0 out 0, 0 fault 2; done 5"},
		{"no fuel for the fault", []int{0}, nil, 4, "[0] [0 0] 0 out 0; fuel 4"},
	})
	expectScenes(t, made(t, "program 0 fun 0 () { return f0() }"), []scene{{"too many calls", nil, nil, 100, "[] [0] 0 fault 3; done 8"}})
	expectScenes(t, made(t, "program 0 fun 0 () { while true { skip } return 0 }"), []scene{
		{"a loop that shows nothing", nil, []int{0, 0}, 4096, "[] [] ; fuel 4096"},
	})
	expectScenes(t, made(t, "program 0 fun 0 () { out 5 while true { skip } return 0 }"), []scene{
		{"a loop behind an event", nil, []int{0, 0}, 4096, "[] [0] 0 out 5; fuel 4096"},
	})
}

// P11.1: schedules for two processes that are ready until they end.
func TestSchedules(t *testing.T) {
	c := made(t, "program 0 fun 0 () { spawn f1(1, 2) out 3 return 4 } fun 2 (int, int) { out (v0 - v1) return v1 }")
	const (
		first  = "[] [0 0 0 1 1] 0 out 3, 0 end 4, 1 out -1, 1 end 2; done 13"
		second = "[] [0 1 1 0 0] 1 out -1, 1 end 2, 0 out 3, 0 end 4; done 13"
		both   = "[] [0 1 0 1 0] 1 out -1, 0 out 3, 1 end 2, 0 end 4; done 13"
	)
	expectScenes(t, c, []scene{
		{"none", nil, nil, 100, first},
		{"an empty one", nil, []int{}, 100, first},
		{"one that fits", nil, []int{0, 0, 0, 1, 1}, 100, first},
		{"the second one first", nil, []int{0, 1, 1, 0, 0}, 100, second},
		{"one after the other", nil, []int{0, 1, 0, 1, 0}, 100, both},
		{"a shorter one", nil, []int{0, 1}, 100, "[] [0 1 0 0 1] 1 out -1, 0 out 3, 0 end 4, 1 end 2; done 13"},
		{"a longer one", nil, []int{0, 1, 1, 0, 0, 1, 0, 7, -3}, 100, second},
		{"a process that has not started", nil, []int{1, 1, 0, 1, 0}, 100, both},
		{"a process that has ended", nil, []int{0, 1, 1, 1, 1}, 100, second},
		{"the first one has ended", nil, []int{0, 0, 0, 0, 0}, 100, first},
		{"negative elements", nil, []int{-1, 1, -1, 1, -2}, 100, both},
		{"the least elements", nil, []int{math.MinInt, 1, math.MinInt, 1, math.MinInt}, 100, both},
		{"large elements", nil, []int{2, 1, 2, 1, 4}, 100, both},
		{"the greatest elements", nil, []int{math.MaxInt, 1, math.MaxInt, 1, math.MaxInt}, 100, both},
		{"elements that are processes modulo something", nil, []int{1 << 32, 257, 3, 5, 4}, 100, first},
		{"only the last one counts", nil, []int{9, 9, 9, 1, 0}, 100, "[] [0 0 0 1 1] 0 out 3, 0 end 4, 1 out -1, 1 end 2; done 13"},
	})
	expectScenes(t, c, []scene{
		{"no fuel for vm.New", nil, []int{0, 1}, 1, "[] [] ; fuel 1"},
		{"no fuel for the first turn", nil, []int{0, 1}, 2, "[] [0] ; fuel 2"},
		{"no fuel to go on", nil, []int{0, 1}, 3, "[] [0] ; fuel 3"},
		{"no fuel for the new process", nil, []int{0, 1}, 4, "[] [0] ; fuel 4"},
		{"not enough for the new process", nil, []int{0, 1}, 6, "[] [0] ; fuel 6"},
		{"enough for one turn", nil, []int{0, 1}, 7, "[] [0 1] ; fuel 7"},
		{"the event of a turn that is not complete", nil, []int{0, 1}, 8, "[] [0 1] 1 out -1; fuel 8"},
		{"enough for two turns", nil, []int{0, 1, 1}, 9, "[] [0 1 1] 1 out -1; fuel 9"},
		{"all but one", nil, []int{0, 1, 1}, 12, "[] [0 1 1 0 0] 1 out -1, 1 end 2, 0 out 3; fuel 12"},
		{"all of it", nil, []int{0, 1, 1}, 13, second},
	})
}

// P11.1: processes that are not ready.
func TestNotReady(t *testing.T) {
	expectScenes(t, made(t, "program 1 fun 0 () { spawn f1() out recv c0 return 0 } fun 0 () { out 1 send c0 2 return 3 }"), []scene{
		{"an empty channel", nil, []int{0, 0, 0, 0, 0, 0, 0}, 100, "[] [0 1 1 0 0 0 1] 1 out 1, 0 out 2, 0 end 0, 1 end 3; done 11"},
		{"the other one waits", nil, []int{0, 0, 0, 1, 1, 0, 0}, 100, "[] [0 1 1 1 0 0 0] 1 out 1, 1 end 3, 0 out 2, 0 end 0; done 11"},
	})
	expectScenes(t, made(t, "program 1 fun 0 () { spawn f1() send c0 1 send c0 2 send c0 3 out 4 return 0 } fun 0 () { out recv c0 return 5 }"), []scene{
		{"a full channel", nil, make([]int, 9), 100, "[] [0 0 0 1 0 0 0 1 1] 0 out 4, 0 end 0, 1 out 1, 1 end 5; done 15"},
		{"an empty one", nil, []int{1, 1, 1, 1, 0, 0}, 100, "[] [0 0 1 1 0 0 0 0 1] 1 out 1, 0 out 4, 0 end 0, 1 end 5; done 15"},
	})
	expectScenes(t, made(t, "program 2 fun 0 () { spawn f1() spawn f2() return recv c0 } fun 0 () { return recv c1 } fun 0 () { send c1 1 send c0 2 return 3 }"), []scene{
		{"the first one of several that are ready", nil, nil, 100, "[] [0 0 2 1 1 2 0 0 2] 1 end 1, 0 end 2, 2 end 3; done 12"},
		{"waiting does not matter", nil, []int{0, 0, 0, 0, 0, 0, 0}, 100, "[] [0 0 2 1 1 2 0 0 2] 1 end 1, 0 end 2, 2 end 3; done 12"},
		{"the last one first", nil, []int{0, 0, 2, 2, 2, 2, 1, 1}, 100, "[] [0 0 2 2 2 0 1 1 0] 2 end 3, 1 end 1, 0 end 2; done 12"},
	})
}

// P11.1: runs that end stuck.
func TestStuck(t *testing.T) {
	expectScenes(t, made(t, "program 1 fun 0 () { return recv c0 }"), []scene{
		{"before the first turn", nil, []int{0}, 100, "[] [] ; stuck 0"},
		{"without fuel", nil, nil, 0, "[] [] ; stuck 0"},
	})
	expectScenes(t, made(t, "program 3 fun 0 () { send c2 1 send c2 2 send c2 3 return 0 }"), []scene{
		{"a full channel", nil, nil, 100, "[] [0 0] ; stuck 5"},
		{"with just enough fuel", nil, nil, 5, "[] [0 0] ; stuck 5"},
		{"without", nil, nil, 4, "[] [0 0] ; fuel 4"},
	})
	expectScenes(t, made(t, "program 1 fun 0 () { spawn f1() out 1 return recv c0 } fun 0 () { out 2 return 3 }"), []scene{
		{"one has ended", nil, nil, 100, "[] [0 0 1 1] 0 out 1, 1 out 2, 1 end 3; stuck 7"},
		{"the other one first", nil, []int{0, 1, 1}, 100, "[] [0 1 1 0] 1 out 2, 1 end 3, 0 out 1; stuck 7"},
		{"with just enough fuel", nil, []int{0, 1, 1}, 7, "[] [0 1 1 0] 1 out 2, 1 end 3, 0 out 1; stuck 7"},
		{"without", nil, []int{0, 1, 1}, 6, "[] [0 1 1 0] 1 out 2, 1 end 3; fuel 6"},
	})
}

// shows is code that shows a number as often as said, and then ends: either with a result, or stuck.
func shows(t *testing.T, times int, last string) api.Code {
	t.Helper()
	return codeOf(t, 1, "0 0: "+strings.Repeat("push 1, out, ", times)+last)
}

// expectTurns is about a run of one process that shows 1 some times, and then may end with the result 0.
func expectTurns(t *testing.T, name string, c api.Code, fuel, turns, outs, end, steps int) {
	t.Helper()
	r := must(t, c, nil, nil, fuel)
	expectPlainRun(t, c, nil, nil, fuel)
	if len(r.Sched) != turns || r.Out.End != end || r.Steps != steps {
		t.Errorf("P11.1: %s: %d turns, the end %d and %d Steps", name, len(r.Sched), r.Out.End, r.Steps)
	}
	events := slices.Repeat([]api.Event{{Proc: 0, Kind: api.EvOut, N: 1}}, outs)
	if end == api.EndDone {
		events = append(events, api.Event{Proc: 0, Kind: api.EvEnd, N: 0})
	}
	if !slices.Equal(r.Out.Events, events) {
		t.Errorf("P11.1: %s: the events are %s", name, told(r.Out.Events))
	}
}

// P11.1: runs of about 256 turns.
func TestManyTurns(t *testing.T) {
	for _, turns := range []int{1, 2, 254, 255, 256} {
		name := strconv.Itoa(turns) + " turns"
		expectTurns(t, name, shows(t, turns-1, "push 0, return"), 4096, turns, turns-1, api.EndDone, 2*turns)
		expectTurns(t, name+", stuck", shows(t, turns, "recv 0, return"), 4096, turns, turns, api.EndStuck, 2*turns)
	}
	// The turns are counted, not the fuel: Steps is that of the last state.
	for _, outs := range []int{256, 257, 300} {
		expectTurns(t, "more turns", shows(t, outs, "push 0, return"), 4096, 256, 256, api.EndFuel, 513)
		expectTurns(t, "more turns with just enough fuel", shows(t, outs, "push 0, return"), 513, 256, 256, api.EndFuel, 513)
		expectTurns(t, "no fuel in the last turn", shows(t, outs, "push 0, return"), 512, 256, 256, api.EndFuel, 512)
		expectTurns(t, "no fuel for the last turn", shows(t, outs, "push 0, return"), 511, 256, 255, api.EndFuel, 511)
		expectTurns(t, "no fuel in the turn before", shows(t, outs, "push 0, return"), 510, 255, 255, api.EndFuel, 510)
	}
	expectTurns(t, "more turns, stuck", shows(t, 257, "recv 0, return"), 4096, 256, 256, api.EndFuel, 513)
	expectTurns(t, "a loop", codeOf(t, 0, "0 0: push 1, out, jump 0"), 4096, 256, 256, api.EndFuel, 1+3*256)
	expectTurns(t, "all of the fuel", codeOf(t, 0, "0 0: push 1, out, "+strings.Repeat("push 1, drop, ", 7)+"push 1, drop, jump 0"), 4096, 216, 216, api.EndFuel, 4096)
}

// P11.1: 256 turns of several processes.
func TestManyTurnsOfSeveral(t *testing.T) {
	c := made(t, "program 0 fun 0 () { spawn f1() spawn f1() spawn f1() while true { out 0 } return 0 } fun 0 () { while true { out 1 } return 0 }")
	var sched []int
	for i := range 1000 {
		sched = append(sched, (i*i+i/7)%4)
	}
	copy(sched, []int{0, 0, 0})
	for _, length := range []int{0, 3, 200, 255, 256, 257, 1000} {
		r := must(t, c, nil, sched[:length], 4096)
		expectPlainRun(t, c, nil, sched[:length], 4096)
		want := slices.Concat(sched[:min(length, 256)], make([]int, max(0, 256-length)))
		if !slices.Equal(r.Sched, want) || len(r.Out.Events) != 253 || r.Out.End != api.EndFuel {
			t.Errorf("P11.1: a schedule of %d elements: %s", length, show(r))
		}
		for i, x := range r.Out.Events {
			if x != (api.Event{Proc: want[i+3], Kind: api.EvOut, N: min(1, want[i+3])}) {
				t.Errorf("P11.1: the event %d is %v", i, x)
			}
		}
	}
}

// expectNone expects an error, and the zero run beside it.
func expectNone(t *testing.T, c api.Code, args, sched []int, fuel int, want api.Errno) {
	t.Helper()
	r, e := run.Run(c, args, sched, fuel)
	if e != want || !identical(r, api.Run{}) {
		t.Errorf("P11.1: %s, %d and not the error %d for the arguments %v, the schedule %v and the fuel %d", show(r), e, want, args, sched, fuel)
	}
	expectPlainRun(t, c, args, sched, fuel)
	if run.Replay(c, api.Run{Args: args, Sched: sched}, fuel) {
		t.Errorf("P11.2: the arguments %v are replayed with the fuel %d", args, fuel)
	}
}

// P11.1, P1: errors, and their order.
func TestErrors(t *testing.T) {
	c := made(t, "program 0 fun 1 (int) { while true { out v0 } return 0 }")
	for _, fuel := range []int{-1, -2, math.MinInt, 4097, 4098, 8192, 1 << 32, math.MaxInt} {
		for _, args := range [][]int{{1}, {}, nil, {1, 2}, {8}} {
			expectNone(t, c, args, []int{0}, fuel, api.ErrRange)
			expectNone(t, c, args, nil, fuel, api.ErrRange)
		}
	}
	// A fuel that is used up at once does not hide the arguments.
	for _, fuel := range []int{0, 1, 100, 4095, 4096} {
		must(t, c, []int{1}, nil, fuel)
		for _, args := range [][]int{nil, {}, {1, 2}, {1, 1, 1}, make([]int, 300), {8}, {-9}, {16}, {math.MinInt}, {math.MaxInt}, {9, 9}} {
			expectNone(t, c, args, []int{0}, fuel, api.ErrArg)
		}
	}
	none := made(t, "program 0 fun 0 () { return 1 }")
	three := made(t, "program 0 fun 3 (int, bool, int) { return 1 }")
	for _, fuel := range []int{0, 4096} {
		must(t, none, []int{}, nil, fuel)
		expectNone(t, none, []int{0}, nil, fuel, api.ErrArg)
		must(t, three, []int{-8, 7, 0}, nil, fuel)
		for _, args := range [][]int{{1, 1}, {1, 1, 1, 1}, {-9, 1, 1}, {1, 8, 1}, {1, 1, -9}, {1, 1, 8}, {8, 8, 8}} {
			expectNone(t, three, args, nil, fuel, api.ErrArg)
		}
	}
}

// P1: code that is not valid.
func TestCodeThatIsNotValid(t *testing.T) {
	numbers := []int{math.MinInt, -9, -1, 0, 0, 0, 1, 2, 3, 5, 8, 30, 300, math.MaxInt}
	next := 1
	pick := func() int {
		next = (next*75 + 74) % 65537
		return numbers[next%len(numbers)]
	}
	for range 20000 {
		c := api.Code{Chans: pick()}
		for range pick() & 3 {
			f := api.FunCode{Params: pick(), Words: pick()}
			for range pick() & 7 {
				f.Body = append(f.Body, api.Instr{Op: (next ^ pick()) % 20, A: pick(), B: pick()})
			}
			c.Funs = append(c.Funs, f)
		}
		for _, args := range [][]int{nil, {pick()}, {1, 2}, {0, 0, 0}} {
			r, e := run.Run(c, args, []int{pick(), pick()}, 50+pick()&63)
			if e != api.OK && !identical(r, api.Run{}) {
				t.Fatalf("P1: %v, %d for %v", r, e, c)
			}
			run.Replay(c, r, 60)
		}
	}
	expectOrder := func(c api.Code) {
		if r, e := run.Run(c, nil, nil, -1); e != api.ErrRange || !identical(r, api.Run{}) {
			t.Errorf("P11.1: %v, %d for %v", r, e, c)
		}
	}
	expectOrder(api.Code{})
	expectOrder(api.Code{Chans: -1, Funs: []api.FunCode{{}}})
}
