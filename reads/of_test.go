package reads_test

import (
	"math"
	"math/rand"
	"slices"
	"strings"
	"testing"

	"scoria/api"
	"scoria/code"
	"scoria/reads"
	"scoria/run"
)

// P13.1: the example of the chapter, and runs whose fuel is used up after each number of steps.
func TestExample(t *testing.T) {
	c := choice(t)
	for _, x := range []scene{
		{name: "3", args: []int{3}, fuel: 100, run: "done 8", want: "0 1 2 3 7 8 9 10"},
		{name: "3, with no fuel to spare", args: []int{3}, fuel: 8, run: "done 8", want: "0 1 2 3 7 8 9 10"},
		{name: "-3", args: []int{-3}, fuel: 100, run: "done 9", want: "0 1 2 3 4 5 6 9 10"},
		{name: "no fuel", args: []int{3}, fuel: 0, run: "fuel 0", want: "0"},
		{name: "used up in vm.New, at once", args: []int{3}, fuel: 1, run: "fuel 1", want: "0 1"},
		{name: "used up in vm.New", args: []int{3}, fuel: 3, run: "fuel 3", want: "0 1 2 3"},
		{name: "used up in vm.New, after a jump", args: []int{3}, fuel: 4, run: "fuel 4", want: "0 1 2 3 7"},
		{name: "used up between vm.New and a turn", args: []int{3}, fuel: 5, run: "fuel 5", want: "0 1 2 3 7 8"},
		{name: "used up in the middle of a turn", args: []int{3}, fuel: 6, run: "fuel 6", want: "0 1 2 3 7 8 9"},
		{name: "used up between turns", args: []int{3}, fuel: 7, run: "fuel 7", want: "0 1 2 3 7 8 9 10"},
		{name: "used up after a jump in the middle of a turn", args: []int{-3}, fuel: 7, run: "fuel 7", want: "0 1 2 3 4 5 6 9"},
	} {
		x.code = c
		x.expect(t)
	}
}

// loop is a function that counts its parameter down to 0: seven instructions for each number.
const loop = "1 1: load 0, false 7, load 0, push 1, op 1, store 0, jump 0, push 0, return"

// P13.1: runs of one process.
func TestOneProcess(t *testing.T) {
	calls := []string{"1 2: load 0, false 5, load 0, call 2 1, store 1, load 1, call 3 0, op 0, return", "0 0: push 1, return", "1 1: load 0, out, load 0, return", "0 0: push 2, return", "0 0: push 3, return"}
	handled := codeOf(t, 0, "1 2: try 7 1, push 6, load 0, op 3, store 0, done, jump 7, load 1, out, push 0, return")
	deep := codeOf(t, 0, "1 2: try 6 1, load 0, call 1 1, store 0, done, jump 6, load 1, return", "1 1: load 0, call 2 1, not, return", "1 1: load 0, false 4, load 0, throw, push 1, return, push 2, return")
	for _, x := range []scene{
		{name: "functions that are called, and ones that are not", code: codeOf(t, 0, calls...), args: []int{5}, fuel: 100, run: "done 15", want: "0 1 2 3 4 5 6 7 8 |  | 0 1 2 3 | 0 1 | "},
		{name: "a function that is not called this time", code: codeOf(t, 0, calls...), args: []int{0}, fuel: 100, run: "done 8", want: "0 1 5 6 7 8 |  |  | 0 1 | "},
		{name: "a call without fuel", code: codeOf(t, 0, calls...), args: []int{5}, fuel: 4, run: "fuel 4", want: "0 1 2 3 |  | 0 |  | "},
		{name: "a return without fuel", code: codeOf(t, 0, calls...), args: []int{5}, fuel: 8, run: "fuel 8", want: "0 1 2 3 4 |  | 0 1 2 3 |  | "},
		{name: "a call that never returns", code: codeOf(t, 0, "0 0: call 1 0, return", "0 0: push 3, throw"), fuel: 100, run: "done 3", want: "0 | 0 1"},
		{name: "calls without end", code: codeOf(t, 0, "0 0: call 0 0, return"), fuel: 100, run: "done 8", want: "0"},
		{name: "calls of each other without end", code: codeOf(t, 0, "0 0: push 1, call 1 1, return", "1 1: call 0 0, return"), fuel: 100, run: "done 12", want: "0 1 | 0"},
		{name: "a division by 0 that is handled", code: handled, args: []int{0}, fuel: 100, run: "done 8", want: "0 1 2 3 7 8 9 10"},
		{name: "a division by 2", code: handled, args: []int{2}, fuel: 100, run: "done 11", want: from(0, 10)},
		{name: "a division by 0 that nothing handles", code: codeOf(t, 0, "1 1: push 6, load 0, op 3, return"), args: []int{0}, fuel: 100, run: "done 3", want: "0 1 2"},
		{name: "a division by 0 that is only looked at", code: codeOf(t, 0, "1 1: push 6, load 0, op 3, return"), args: []int{0}, fuel: 2, run: "fuel 2", want: "0 1 2"},
		{name: "a code that is handled two calls above", code: deep, args: []int{5}, fuel: 100, run: "done 11", want: "0 1 2 6 7 | 0 1 | 0 1 2 3"},
		{name: "a code that is not thrown", code: deep, args: []int{0}, fuel: 100, run: "done 16", want: "0 1 2 3 4 5 6 7 | 0 1 2 3 | 0 1 4 5"},
		{name: "an index out of range", code: codeOf(t, 0, "1 5: try 6 4, load 0, elem 0 4, done, jump 7, push 1, load 4, return, return"), args: []int{4}, fuel: 100, run: "done 5", want: "0 1 2 6 7"},
		{name: "steps in the middle of a turn", code: codeOf(t, 0, "0 0: push 1, out, jump 5, push 6, return, push 7, drop, jump 3, push 0, return"), fuel: 100, run: "done 8", want: "0 1 2 3 4 5 6 7"},
		{name: "waiting for a word", code: codeOf(t, 1, "0 0: recv 0, return"), fuel: 100, run: "stuck 0", want: "0"},
		{name: "waiting for room", code: codeOf(t, 1, "0 0: push 1, send 0, push 2, send 0, push 3, send 0, push 4, return"), fuel: 100, run: "stuck 5", want: "0 1 2 3 4 5"},
		{name: "a jump to itself", code: codeOf(t, 0, "0 0: push 0, drop, jump 2"), fuel: 100, run: "fuel 100", want: "0 1 2"},
		{name: "256 turns", code: codeOf(t, 0, "0 0: push 1, out, push 2, drop, jump 0, push 0, return"), fuel: 4096, run: "fuel 1281", want: "0 1 2 3 4"},
		{name: "255 turns, and one that ends", code: codeOf(t, 0, "0 0: "+strings.Repeat("push 1, out, ", 255)+"push 1, return"), fuel: 4096, run: "done 512", want: from(0, 511)},
		{name: "256 turns ahead of the last one", code: codeOf(t, 0, "0 0: "+strings.Repeat("push 1, out, ", 256)+"push 1, return, push 2, return"), fuel: 4096, run: "fuel 513", want: from(0, 513)},
		{name: "a loop", code: codeOf(t, 0, loop), args: []int{7}, fuel: 4096, run: "done 53", want: from(0, 8)},
		{name: "a loop that is used up", code: codeOf(t, 0, loop), args: []int{7}, fuel: 49, run: "fuel 49", want: from(0, 6)},
		{name: "all fuel", code: codeOf(t, 0, "0 0: push 0, push 1, drop, false 0, push 5, return"), fuel: 4096, run: "fuel 4096", want: from(0, 3)},
	} {
		x.expect(t)
	}
}

// P13.1: a turn that takes 4096 instructions less those ahead of it, of which some stand only before the last ones.
func TestLongTurns(t *testing.T) {
	long := "0 0: " + strings.Repeat("push 0, drop, ", 1000) + "push 0, return"
	for _, x := range []scene{
		{name: "in vm.New", code: codeOf(t, 0, "0 0: call 1 0, drop, call 1 0, return", long), fuel: 4096, run: "done 4008", want: "0 1 2 3 | " + from(0, 2001)},
		{name: "in a turn", code: codeOf(t, 0, "0 0: push 1, out, call 1 0, drop, call 1 0, return", long), fuel: 4096, run: "done 4010", want: "0 1 2 3 4 5 | " + from(0, 2001)},
		{name: "in a turn that starts a process", code: codeOf(t, 0, "0 0: spawn 2 0, call 1 0, return", long, "0 0: call 3 0, return", long), fuel: 4096, run: "done 4009", want: "0 1 2 | " + from(0, 2001) + " | 0 1 | " + from(0, 2001)},
		{name: "used up in vm.New", code: codeOf(t, 0, "0 0: call 1 0, return", long), fuel: 1500, run: "fuel 1500", want: "0 | " + from(0, 1499)},
		{name: "used up in a process that is started", code: codeOf(t, 0, "0 0: spawn 1 0, push 0, push 0, return", long), fuel: 1500, run: "fuel 1500", want: "0 1 2 3 | " + from(0, 1497)},
	} {
		x.expect(t)
	}
}

// P13.1: runs of several processes.
func TestProcesses(t *testing.T) {
	both := codeOf(t, 0, "0 0: spawn 1 0, push 1, out, push 0, return", "0 0: push 2, out, push 0, return")
	race := codeOf(t, 1, "0 0: spawn 1 0, push 1, send 0, recv 0, false 7, push 1, out, push 0, return", "0 0: push 0, send 0, push 0, return")
	many := codeOf(t, 0, "0 1: try 7 0, spawn 1 0, spawn 1 0, spawn 1 0, spawn 2 0, done, jump 7, load 0, return", "0 0: push 1, return", "0 0: push 2, return")
	for _, x := range []scene{
		{name: "both end", code: both, fuel: 100, run: "done 9", want: "0 1 2 3 4 | 0 1 2 3"},
		{name: "before the start", code: both, fuel: 0, run: "fuel 0", want: "0 | "},
		{name: "just started", code: both, fuel: 1, run: "fuel 1", want: "0 1 | 0"},
		{name: "started, and still waiting for the first one", code: both, fuel: 2, run: "fuel 2", want: "0 1 2 | 0"},
		{name: "started, and going on", code: both, fuel: 3, run: "fuel 3", want: "0 1 2 | 0 1"},
		{name: "the second one first", code: both, sched: []int{0, 1}, fuel: 4, run: "fuel 4", want: "0 1 2 | 0 1 2"},
		{name: "the first one first", code: both, sched: []int{0, 0}, fuel: 4, run: "fuel 4", want: "0 1 2 3 | 0 1"},
		{name: "started, and never chosen", code: codeOf(t, 0, "0 0: spawn 1 0, push 1, out, jump 1", "0 0: push 5, push 6, out, return"), fuel: 4096, run: "fuel 769", want: "0 1 2 3 | 0 1 2"},
		{name: "started, and never ready", code: codeOf(t, 1, "0 0: spawn 1 0, push 1, return", "0 0: push 5, drop, recv 0, return"), fuel: 100, run: "stuck 5", want: "0 1 2 | 0 1 2"},
		{name: "started before an instruction that is visible", code: codeOf(t, 1, "0 0: spawn 1 0, push 1, return", "0 0: recv 0, return"), fuel: 100, run: "stuck 3", want: "0 1 2 | 0"},
		{name: "a word that is sent", code: codeOf(t, 1, "0 0: spawn 1 0, recv 0, return, push 0, return", "0 0: push 3, send 0, push 0, return"), fuel: 100, run: "done 7", want: "0 1 2 | 0 1 2 3"},
		{name: "1 comes first", code: race, sched: []int{0, 0, 0}, fuel: 100, run: "done 13", want: "0 1 2 3 4 5 6 7 8 | 0 1 2 3"},
		{name: "0 comes first", code: race, sched: []int{0, 1, 0, 0}, fuel: 100, run: "done 11", want: "0 1 2 3 4 7 8 | 0 1 2 3"},
		{name: "too many processes", code: many, fuel: 100, run: "done 13", want: "0 1 2 3 4 7 8 | 0 1 | "},
		{name: "two processes of one function", code: codeOf(t, 1, "1 1: load 0, false 6, push 0, spawn 0 1, recv 0, return, push 5, send 0, load 0, return"), args: []int{1}, fuel: 100, run: "done 12", want: from(0, 9)},
		{name: "a process that starts another one", code: codeOf(t, 0, "0 0: spawn 1 0, push 0, return", "0 0: push 1, drop, spawn 2 0, push 0, return", "0 0: push 2, drop, push 3, throw"), fuel: 100, run: "done 12", want: "0 1 2 | 0 1 2 3 4 | 0 1 2 3"},
		{name: "a process that is called as well", code: codeOf(t, 0, "0 0: spawn 1 0, call 1 0, return", "0 0: push 4, drop, push 4, return"), fuel: 6, run: "fuel 6", want: "0 1 2 | 0 1 2 3"},
	} {
		x.expect(t)
	}
}

// P13.1: codes and runs of all kinds.
func TestOfPlain(t *testing.T) {
	r := rand.New(rand.NewSource(131))
	clear(seen)
	for _, c := range someCodes(t, r, 300) {
		args := anyArgs(r, c)
		for range 4 {
			sched, fuel := anySched(r), anyFuel(r)
			x := ran(t, c, args, sched, fuel)
			if x.Steps > 150 || len(x.Sched) > 60 {
				continue
			}
			l, _ := expectPlainOf(t, c, args, sched, fuel)
			countRun(x)
			done := executed(t, c, x)
			for f, indices := range l.Funs {
				count(len(indices) == 0, "a function that is not called")
				for _, at := range indices {
					count(!done[[2]int{f, at}], "looked at alone")
				}
			}
		}
	}
	expectSeen(t, 100, "done", "stuck", "fuel used up in vm.New", "fuel used up later", "several processes", "looked at alone", "a function that is not called", "long runs")
}

// countRun counts what a run is like.
func countRun(x api.Run) {
	count(x.Out.End == api.EndDone, "done")
	count(x.Out.End == api.EndStuck, "stuck")
	count(x.Out.End == api.EndFuel && len(x.Sched) == 0, "fuel used up in vm.New")
	count(x.Out.End == api.EndFuel && len(x.Sched) > 0, "fuel used up later")
	count(slices.Max(append(x.Sched, 0)) > 0, "several processes")
	count(x.Steps > 60, "long runs")
}

// P13.1: each fuel that is used up by a run.
func TestEachFuel(t *testing.T) {
	r := rand.New(rand.NewSource(132))
	for _, c := range someCodes(t, r, 12) {
		args, sched := anyArgs(r, c), anySched(r)
		x := ran(t, c, args, sched, 60)
		for fuel := 0; fuel <= x.Steps+1; fuel++ {
			expectPlainOf(t, c, args, sched, fuel)
		}
	}
}

// broken has codes that are not valid.
func broken(t *testing.T) map[string]api.Code {
	t.Helper()
	l := map[string]api.Code{"no code": {}}
	add := func(name string, change func(c *api.Code)) {
		c := codeOf(t, 1, "1 1: load 0, return, load 0, return", "0 0: push 1, return")
		change(&c)
		if code.Valid(c) {
			t.Fatalf("P8.1: %s: the code is valid", name)
		}
		l[name] = c
	}
	add("too many channels", func(c *api.Code) { c.Chans = 4 })
	add("a negative number of channels", func(c *api.Code) { c.Chans = -1 })
	add("a negative number of parameters", func(c *api.Code) { c.Funs[1].Params = -1 })
	add("too many words", func(c *api.Code) { c.Funs[1].Words = 25 })
	add("too few words", func(c *api.Code) { c.Funs[0].Words = 0 })
	add("a word that does not exist, which nothing reaches", func(c *api.Code) { c.Funs[0].Body[2].A = 1 })
	add("a word that does not exist", func(c *api.Code) { c.Funs[0].Body[0].A = 1 })
	add("no word that is returned", func(c *api.Code) { c.Funs[0].Body = c.Funs[0].Body[1:2] })
	add("no return", func(c *api.Code) { c.Funs[0].Body = c.Funs[0].Body[:1] })
	add("no instructions", func(c *api.Code) { c.Funs[0].Body = nil })
	add("no instructions in another function", func(c *api.Code) { c.Funs[1].Body = nil })
	add("an operand too many", func(c *api.Code) { c.Funs[0].Body[1].A = 1 })
	add("an unknown instruction", func(c *api.Code) { c.Funs[1].Body[0].Op = api.Instrs })
	add("too many functions", func(c *api.Code) {
		for len(c.Funs) < 7 {
			c.Funs = append(c.Funs, c.Funs[1])
		}
	})
	return l
}

// P13.1: code that is not valid, with what is a run of it, if it has one, or none.
func TestOfBrokenCode(t *testing.T) {
	valid := codeOf(t, 1, "1 1: load 0, return, load 0, return", "0 0: push 1, return")
	right := ran(t, valid, []int{3}, nil, 100)
	had := 0
	for name, c := range broken(t) {
		for _, r := range []api.Run{right, {}, {Args: []int{3}, Out: api.Outcome{End: api.EndFuel}}} {
			for _, fuel := range []int{-1, 0, 100, 4097} {
				if run.Replay(c, r, fuel) {
					had++
				}
				if l, e := reads.Of(c, r, fuel); e != api.ErrArg || !none(l) {
					t.Errorf("P13.1: %s: the error %d, and %v, for the run %v and the fuel %d", name, e, l, r, fuel)
				}
			}
		}
	}
	if had < 5 {
		t.Errorf("only %d runs", had)
	}
	if l, e := reads.Of(valid, right, 100); e != api.OK || told(l) != "0 1 | " {
		t.Errorf("P13.1: the error %d, and %v", e, l)
	}
}

// talk is a program of two processes, in which everything can be observed: the argument, and in which order there were turns.
const talk = "program 1 fun 1 (int) { spawn f1(v0) out v0 out recv c0 return 0 } fun 1 (int) { out v0 send c0 2 throw (v0 - 4) }"

// changes are ways to change a run of talk, so that it is none any more.
func changes() map[string]func(r *api.Run) {
	list := map[string]func(r *api.Run){
		"another argument":    func(r *api.Run) { r.Args[0] = 2 },
		"an argument more":    func(r *api.Run) { r.Args = append(r.Args, 0) },
		"an argument less":    func(r *api.Run) { r.Args = nil },
		"no word":             func(r *api.Run) { r.Args[0] = 3 + 16 },
		"a choice more":       func(r *api.Run) { r.Sched = append(r.Sched, 0) },
		"a choice less":       func(r *api.Run) { r.Sched = r.Sched[:len(r.Sched)-1] },
		"a first choice less": func(r *api.Run) { r.Sched = r.Sched[1:] },
		"no choices":          func(r *api.Run) { r.Sched = nil },
		"another choice":      func(r *api.Run) { r.Sched[1] = 0 },
		"another last choice": func(r *api.Run) { r.Sched[len(r.Sched)-1] = 1 },
		"a wild choice":       func(r *api.Run) { r.Sched[0] = math.MaxInt },
		"an event more":       func(r *api.Run) { r.Out.Events = append(r.Out.Events, api.Event{}) },
		"an event less":       func(r *api.Run) { r.Out.Events = r.Out.Events[:len(r.Out.Events)-1] },
		"a first event less":  func(r *api.Run) { r.Out.Events = r.Out.Events[1:] },
		"no events":           func(r *api.Run) { r.Out.Events = nil },
		"other order":         func(r *api.Run) { slices.Reverse(r.Out.Events) },
		"Proc of an event":    func(r *api.Run) { r.Out.Events[1].Proc = 1 },
		"Kind of an event":    func(r *api.Run) { r.Out.Events[1].Kind = api.EvEnd },
		"N of an event":       func(r *api.Run) { r.Out.Events[1].N++ },
		"N of the last event": func(r *api.Run) { r.Out.Events[4].N++ },
		"stuck":               func(r *api.Run) { r.Out.End = api.EndStuck },
		"no fuel":             func(r *api.Run) { r.Out.End = api.EndFuel },
		"no end":              func(r *api.Run) { r.Out.End = -1 },
		"a step more":         func(r *api.Run) { r.Steps++ },
		"a step less":         func(r *api.Run) { r.Steps-- },
		"no steps":            func(r *api.Run) { r.Steps = 0 },
		"negative steps":      func(r *api.Run) { r.Steps = -r.Steps },
		"very many steps":     func(r *api.Run) { r.Steps = math.MaxInt },
		"nothing":             func(r *api.Run) { *r = api.Run{} },
	}
	return list
}

// clonedRun is a run without any of the memory of r.
func clonedRun(r api.Run) api.Run {
	r.Args, r.Sched, r.Out.Events = slices.Clone(r.Args), slices.Clone(r.Sched), slices.Clone(r.Out.Events)
	return r
}

// P13.1: a run, all of its fields changed, and other fuel.
func TestOfOtherRuns(t *testing.T) {
	c := made(t, talk)
	r := ran(t, c, []int{3}, []int{0, 1, 0, 1, 1}, 100)
	if r.Steps != 16 || len(r.Out.Events) != 5 {
		t.Fatalf("P11.1: the run is %v", r)
	}
	want := of(t, c, r, 100)
	for _, fuel := range []int{16, 17, 4095, 4096} {
		if l, e := reads.Of(c, r, fuel); e != api.OK || !equal(l, want) {
			t.Errorf("P13.1: the error %d, and %v, with the fuel %d", e, l, fuel)
		}
	}
	for _, fuel := range []int{-1, 0, 1, 14, 15, 4097, math.MinInt, math.MaxInt} {
		if l, e := reads.Of(c, r, fuel); e != api.ErrCheck || !none(l) {
			t.Errorf("P13.1: the error %d, and %v, with the fuel %d", e, l, fuel)
		}
	}
	for name, change := range changes() {
		x := clonedRun(r)
		change(&x)
		if l, e := reads.Of(c, x, 100); e != api.ErrCheck || !none(l) {
			t.Errorf("P13.1: %s: the error %d, and %v", name, e, l)
		}
	}
	other := made(t, strings.Replace(talk, "v0 - 4", "v0 - 3", 1))
	if l, e := reads.Of(other, r, 100); e != api.ErrCheck || !none(l) {
		t.Errorf("P13.1: the error %d, and %v, with other code", e, l)
	}
}

// P13.1: runs whose fuel is used up are none with another fuel.
func TestOfUsedUp(t *testing.T) {
	c := choice(t)
	for used := range 8 {
		r := ran(t, c, []int{3}, nil, used)
		for fuel := -1; fuel <= 9; fuel++ {
			want := api.ErrCheck
			if fuel == used {
				want = api.OK
			}
			if l, e := reads.Of(c, r, fuel); e != want || none(l) != (want != api.OK) {
				t.Errorf("P13.1: the error %d, and %v, for a run with the fuel %d, and the fuel %d", e, l, used, fuel)
			}
		}
	}
	zero := ran(t, c, []int{3}, nil, 0)
	for _, fuel := range []int{-1, 4096, 4097} {
		if l, e := reads.Of(c, zero, fuel); e != api.ErrCheck || !none(l) {
			t.Errorf("P13.1: the error %d, and %v, for the fuel %d", e, l, fuel)
		}
	}
	ends := codeOf(t, 1, "0 0: recv 0, return")
	for fuel, want := range map[int]api.Errno{-1: api.ErrCheck, 0: api.OK, 1: api.OK, 4096: api.OK, 4097: api.ErrCheck} {
		if l, e := reads.Of(ends, api.Run{Out: api.Outcome{End: api.EndStuck}}, fuel); e != want || none(l) != (want != api.OK) {
			t.Errorf("P13.1: the error %d, and %v, for a run without steps, and the fuel %d", e, l, fuel)
		}
	}
}
