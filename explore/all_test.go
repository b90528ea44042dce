package explore_test

import (
	"math/rand"
	"slices"
	"strings"
	"testing"

	"scoria/api"
	"scoria/explore"
	"scoria/run"
	"scoria/vm"
)

// scenes has codes with their graphs, written by hand.
func scenes(t *testing.T) []scene {
	t.Helper()
	return []scene{
		{
			name:   "two processes that show a number each",
			code:   both(t),
			states: []string{"0@0[|].", "0@2[|1]. 1@1[|2].", "0@4[|0]. 1@1[|2].", "0@2[|1]. 1@3[|0].", ". 1@1[|2].", "0@4[|0]. 1@3[|0].", "0@2[|1]. .", ". 1@3[|0].", "0@4[|0]. .", ". ."},
			edges:  []string{"0 0>1", "1 0>2 0 out 1", "1 1>3 1 out 2", "2 0>4 0 end 0", "2 1>5 1 out 2", "3 0>5 0 out 1", "3 1>6 1 end 0", "4 1>7 1 out 2", "5 0>7 0 end 0", "5 1>8 1 end 0", "6 0>8 0 out 1", "7 1>9 1 end 0", "8 0>9 0 end 0"},
			ends:   []int{-1, -1, -1, -1, -1, -1, -1, -1, -1, api.EndDone},
			outs: []string{
				"0 out 1, 0 end 0, 1 out 2, 1 end 0; 0", "0 out 1, 1 out 2, 0 end 0, 1 end 0; 0", "0 out 1, 1 out 2, 1 end 0, 0 end 0; 0",
				"1 out 2, 0 out 1, 0 end 0, 1 end 0; 0", "1 out 2, 0 out 1, 1 end 0, 0 end 0; 0", "1 out 2, 1 end 0, 0 out 1, 0 end 0; 0",
			},
		},
		{
			name:   "a process that waits for ever in the first state",
			code:   codeOf(t, 1, "0 0: recv 0, return"),
			states: []string{"0@0[|]. <>"},
			ends:   []int{api.EndStuck},
			outs:   []string{"; 1"},
		},
		{
			name:   "a process alone",
			code:   codeOf(t, 0, "1 1: load 0, return"),
			args:   []int{-8},
			states: []string{"0@1[-8|-8].", "."},
			edges:  []string{"0 0>1 0 end -8"},
			ends:   []int{-1, api.EndDone},
			outs:   []string{"0 end -8; 0"},
		},
		{
			name:   "faults",
			code:   codeOf(t, 0, "1 1: push 6, load 0, op 3, out, push 5, throw"),
			args:   []int{2},
			states: []string{"0@3[2|3].", "0@5[2|5].", "."},
			edges:  []string{"0 0>1 0 out 3", "1 0>2 0 fault 5"},
			ends:   []int{-1, -1, api.EndDone},
			outs:   []string{"0 out 3, 0 fault 5; 0"},
		},
		{
			name:   "a division by 0",
			code:   codeOf(t, 0, "1 1: push 6, load 0, op 3, out, push 5, throw"),
			args:   []int{0},
			states: []string{"0@2[0|6 0].", "."},
			edges:  []string{"0 0>1 0 fault 2"},
			ends:   []int{-1, api.EndDone},
			outs:   []string{"0 fault 2; 0"},
		},
		{
			name:   "a channel that is full",
			code:   codeOf(t, 2, "0 0: push 1, send 1, push 2, send 1, push 3, send 1, push 0, return"),
			states: []string{"0@1[|1]. <> <>", "0@3[|2]. <> <1>", "0@5[|3]. <> <1 2>"},
			edges:  []string{"0 0>1", "1 0>2"},
			ends:   []int{-1, -1, api.EndStuck},
			outs:   []string{"; 1"},
		},
		{
			name:   "a word that is sent to the first process",
			code:   codeOf(t, 1, "0 0: spawn 1 0, recv 0, out, push 0, return", "0 0: push 5, send 0, push 1, return"),
			states: []string{"0@0[|]. <>", "0@1[|]. 1@1[|5]. <>", "0@1[|]. 1@3[|1]. <5>", "0@2[|5]. 1@3[|1]. <>", "0@1[|]. . <5>", "0@4[|0]. 1@3[|1]. <>", "0@2[|5]. . <>", ". 1@3[|1]. <>", "0@4[|0]. . <>", ". . <>"},
			edges:  []string{"0 0>1", "1 1>2", "2 0>3", "2 1>4 1 end 1", "3 0>5 0 out 5", "3 1>6 1 end 1", "4 0>6", "5 0>7 0 end 0", "5 1>8 1 end 1", "6 0>8 0 out 5", "7 1>9 1 end 1", "8 0>9 0 end 0"},
			ends:   []int{-1, -1, -1, -1, -1, -1, -1, -1, -1, api.EndDone},
			outs:   []string{"0 out 5, 0 end 0, 1 end 1; 0", "0 out 5, 1 end 1, 0 end 0; 0", "1 end 1, 0 out 5, 0 end 0; 0"},
		},
		{
			name:   "two processes that want one word",
			code:   codeOf(t, 1, "0 0: spawn 1 0, push 7, send 0, recv 0, return", "0 0: recv 0, return"),
			states: []string{"0@0[|]. <>", "0@2[|7]. 1@0[|]. <>", "0@3[|]. 1@0[|]. <7>", "0@4[|7]. 1@0[|]. <>", "0@3[|]. 1@1[|7]. <>", ". 1@0[|]. <>", "0@3[|]. . <>"},
			edges:  []string{"0 0>1", "1 0>2", "2 0>3", "2 1>4", "3 0>5 0 end 7", "4 1>6 1 end 7"},
			ends:   []int{-1, -1, -1, -1, -1, api.EndStuck, api.EndStuck},
			outs:   []string{"0 end 7; 1", "1 end 7; 1"},
		},
		{
			name:   "a word that is sent and received for ever",
			code:   codeOf(t, 1, "0 0: push 1, send 0, recv 0, drop, jump 0"),
			states: []string{"0@1[|1]. <>", "0@2[|]. <1>"},
			edges:  []string{"0 0>1", "1 0>0"},
			ends:   []int{-1, -1},
		},
		{
			name:   "a number that is shown for ever",
			code:   codeOf(t, 0, "0 0: push 1, out, jump 0"),
			states: []string{"0@1[|1]."},
			edges:  []string{"0 0>0 0 out 1"},
			ends:   []int{-1},
		},
		{
			name:   "a process that ends beside one that shows a number for ever",
			code:   codeOf(t, 0, "0 0: spawn 1 0, push 3, return", "0 0: push 1, out, jump 0"),
			states: []string{"0@0[|].", "0@2[|3]. 1@1[|1].", ". 1@1[|1]."},
			edges:  []string{"0 0>1", "1 0>2 0 end 3", "1 1>1 1 out 1", "2 1>2 1 out 1"},
			ends:   []int{-1, -1, -1},
		},
		{
			name:   "calls and handlers",
			code:   codeOf(t, 1, "1 2: load 0, call 1 1, return", "1 2: try 5 1, load 0, out, load 0, throw, load 1, throw"),
			args:   []int{4},
			states: []string{"0@2[4 0|]1@2[4 0|4]. <>", "0@2[4 0|]1@6[4 4|4]. <>", ". <>"},
			edges:  []string{"0 0>1 0 out 4", "1 0>2 0 fault 4"},
			ends:   []int{-1, -1, api.EndDone},
			outs:   []string{"0 out 4, 0 fault 4; 0"},
		},
	}
}

// P12.1, P12.2, P12.3: graphs written by hand, and the example of the chapter.
func TestScenes(t *testing.T) {
	for _, x := range scenes(t) {
		expectScene(t, x)
	}
}

// P12.1: states have the Steps 0, and are joined although they were reached in different numbers of steps.
func TestSteps(t *testing.T) {
	c := codeOf(t, 1, "0 0: push 1, send 0, recv 0, drop, jump 0")
	s, _, _ := vm.New(c, nil, 4096)
	if s.Steps != 1 {
		t.Fatalf("P12.1: %d steps", s.Steps)
	}
	for _, x := range scenes(t) {
		for i, s := range explored(t, x.code, x.args, 1024).States {
			if s.Steps != 0 {
				t.Errorf("P12.1: %s: the state %d has the Steps %d", x.name, i, s.Steps)
			}
		}
	}
}

// P12.1: the numbers of states that are too few, just enough, and more than enough, and those that no graph may have.
func TestMost(t *testing.T) {
	for _, x := range scenes(t) {
		n := len(x.states)
		for most, want := range map[int]api.Errno{-1 << 63: api.ErrArg, -1: api.ErrArg, 0: api.ErrArg, n - 1: api.ErrLimit, n: api.OK, n + 1: api.OK, 1024: api.OK, 1025: api.ErrArg, 1 << 62: api.ErrArg} {
			if most == 0 {
				want = api.ErrArg
			}
			g, e := explore.All(x.code, x.args, most)
			if e != want || (e != api.OK && !empty(g)) || (e == api.OK && len(g.States) != n) {
				t.Errorf("P12.1: %s: the error %d and %d states for most %d", x.name, e, len(g.States), most)
			}
		}
	}
}

// shows is code of one process that shows 0 as many times, and ends: with two more states.
func shows(t *testing.T, n int) api.Code {
	t.Helper()
	return codeOf(t, 0, "0 0: "+strings.Repeat("push 0, out, ", n)+"push 0, return")
}

// P12.1: 1024 states, and one more.
func TestManyStates(t *testing.T) {
	g := explored(t, shows(t, 1022), nil, 1024)
	if len(g.States) != 1024 || len(g.Edges) != 1023 || g.Ends[1022] != -1 || g.Ends[1023] != api.EndDone {
		t.Errorf("P12.1: %d states, %d edges", len(g.States), len(g.Edges))
	}
	if g, e := explore.All(shows(t, 1022), nil, 1023); e != api.ErrLimit || !empty(g) {
		t.Errorf("P12.1: the error %d for 1024 states and most 1023", e)
	}
	if g, e := explore.All(shows(t, 1023), nil, 1024); e != api.ErrLimit || !empty(g) {
		t.Errorf("P12.1: the error %d for 1025 states and most 1024", e)
	}
	if g, e := explore.All(shows(t, 1023), nil, 1025); e != api.ErrArg || !empty(g) {
		t.Errorf("P12.1: the error %d for most 1025", e)
	}
	// all that the limit leaves, in the other functions
	if e := explore.Check(shows(t, 1022), nil, g); e != api.OK {
		t.Errorf("P12.2: the error %d for 1024 states", e)
	}
	l, e := explore.Outcomes(g, 1)
	if e != api.OK || len(l) != 1 || len(l[0].Events) != 1023 {
		t.Fatalf("P12.3: the error %d and %d outcomes for 1024 states", e, len(l))
	}
	sched, e := explore.Witness(shows(t, 1022), nil, l[0], 1024)
	if e != api.OK || !slices.Equal(sched, make([]int, 1023)) {
		t.Errorf("P12.4: the error %d and %d choices for 1024 states", e, len(sched))
	}
}

// P12.1: arguments that function 0 cannot be called with.
func TestArguments(t *testing.T) {
	c := codeOf(t, 0, "2 3: load 0, load 1, op 0, out, load 2, return")
	right := explored(t, c, []int{-8, 7}, 3)
	for _, args := range [][]int{nil, {}, {1}, {1, 2, 3}, {-9, 0}, {0, -9}, {8, 0}, {0, 8}, {1 << 62, 0}, {0, -1 << 63}, {16, 0}} {
		if g, e := explore.All(c, args, 3); e != api.ErrArg || !empty(g) {
			t.Errorf("P12.1: the error %d for the arguments %v", e, args)
		}
		if e := explore.Check(c, args, right); e != api.ErrArg {
			t.Errorf("P12.2: the error %d for the arguments %v", e, args)
		}
		if e := explore.Check(c, args, explore.Graph{}); e != api.ErrArg {
			t.Errorf("P12.2: the error %d for the arguments %v and the zero graph", e, args)
		}
		if l, e := explore.Witness(c, args, api.Outcome{}, 3); e != api.ErrArg || len(l) > 0 {
			t.Errorf("P12.4: the error %d for the arguments %v", e, args)
		}
		if _, e := explore.All(c, args, 1); e != api.ErrArg {
			t.Errorf("P12.1: the error %d for the arguments %v, and too few states", e, args)
		}
	}
	for _, args := range [][]int{{-8, -8}, {7, 7}, {-8, 7}} {
		expectPlainAll(t, c, args, 3)
	}
}

// filled is a function of as many instructions, which does nothing but to return 0.
func filled(instrs int) string {
	return "0 0: " + strings.Repeat("push 0, drop, ", instrs/2-1) + "push 0, return"
}

// P12.1: the fuel of vm.New and of each turn is 4096.
func TestFuel(t *testing.T) {
	long := filled(2046)
	// Both have 4096 instructions ahead of the visible one that follows, two times those of the long function among them; push 1 belongs to what is before the turn.
	turn := "push 1, out, call 1 0, drop, call 1 0, "
	first := "call 1 0, drop, call 1 0, not, "
	for _, x := range []struct {
		name   string
		code   api.Code
		states int
		want   api.Errno
	}{
		{"a turn of 4096", codeOf(t, 0, "0 0: "+turn+"return", long), 3, api.OK},
		{"a turn of 4097", codeOf(t, 0, "0 0: "+turn+"not, return", long), 0, api.ErrFuel},
		{"4096 in vm.New", codeOf(t, 0, "0 0: "+first+"return", long), 2, api.OK},
		{"4096 in vm.New, and a turn of 4095", codeOf(t, 0, "0 0: "+first+"out, call 1 0, drop, call 1 0, return", long), 3, api.OK},
		{"4097 in vm.New", codeOf(t, 0, "0 0: "+first+"not, return", long), 0, api.ErrFuel},
		{"turns of 2048", codeOf(t, 0, "0 0: push 0, out, call 1 0, out, call 1 0, out, call 1 0, out, call 1 0, return", long), 6, api.OK},
		{"a loop in vm.New", codeOf(t, 0, "0 0: jump 0"), 0, api.ErrFuel},
		{"a loop in a turn", codeOf(t, 0, "0 0: push 1, out, jump 2"), 0, api.ErrFuel},
		{"a loop in the turn that starts it", codeOf(t, 0, "0 0: spawn 1 0, push 1, return", "0 0: jump 0"), 0, api.ErrFuel},
	} {
		g, e := explore.All(x.code, nil, 1024)
		if e != x.want || len(g.States) != x.states || (e != api.OK && !empty(g)) {
			t.Errorf("P12.1: %s: the error %d and %d states", x.name, e, len(g.States))
		}
		expectPlainAll(t, x.code, nil, 1024)
		if _, e := explore.Witness(x.code, nil, api.Outcome{}, 1024); x.want != api.OK && e != api.ErrFuel {
			t.Errorf("P12.4: %s: the error %d", x.name, e)
		}
	}
	// all together more than the fuel of a run
	c := codeOf(t, 0, "0 0: push 0, out, call 1 0, out, call 1 0, out, call 1 0, out, call 1 0, return", long)
	if r, e := run.Run(c, nil, nil, 4096); e != api.OK || r.Out.End != api.EndFuel {
		t.Errorf("P11.1: %v, %d", r, e)
	}
}

// P12.1: which error applies first is said by the order of the edges.
func TestOrderOfErrors(t *testing.T) {
	// the turn of process 1 never ends; that of process 0 stands before it
	second := codeOf(t, 0, "0 0: spawn 1 0, push 1, out, push 0, return", "0 0: push 2, out, jump 2")
	// the turn of process 0 never ends
	first := codeOf(t, 0, "0 0: spawn 1 0, push 1, out, jump 3", "0 0: push 2, out, push 0, return")
	for _, x := range []struct {
		name string
		code api.Code
		most int
		want api.Errno
	}{
		{"process 1, one state", second, 1, api.ErrLimit},
		{"process 1, two states", second, 2, api.ErrLimit},
		{"process 1, three states", second, 3, api.ErrFuel},
		{"process 1, 1024 states", second, 1024, api.ErrFuel},
		{"process 0, one state", first, 1, api.ErrLimit},
		{"process 0, two states", first, 2, api.ErrFuel},
		{"process 0, three states", first, 3, api.ErrFuel},
		{"no states, and a loop", codeOf(t, 0, "0 0: jump 0"), 0, api.ErrArg},
		{"too many states, and a loop", codeOf(t, 0, "0 0: jump 0"), 1025, api.ErrArg},
		{"one state, and a loop", codeOf(t, 0, "0 0: jump 0"), 1, api.ErrFuel},
	} {
		if g, e := explore.All(x.code, nil, x.most); e != x.want || !empty(g) {
			t.Errorf("P12.1: %s: the error %d", x.name, e)
		}
		if l, e := explore.Witness(x.code, nil, api.Outcome{}, x.most); e != x.want || len(l) > 0 {
			t.Errorf("P12.4: %s: the error %d", x.name, e)
		}
	}
}

// P12.1: codes of random programs, and other random ones.
func TestRandomGraphs(t *testing.T) {
	r := rand.New(rand.NewSource(121))
	clear(seen)
	for _, c := range someCodes(t, r, 700) {
		args := anyArgs(r, c)
		g, e := expectPlainAll(t, c, args, []int{5, 50, 200}[r.Intn(3)])
		count(e == api.ErrLimit, "too many states")
		count(e == api.ErrFuel, "fuel used up")
		if e != api.OK {
			continue
		}
		n := len(g.States)
		for most := max(1, n-r.Intn(4)); most <= n; most++ {
			expectPlainAll(t, c, args, most)
		}
		for i := range max(0, n-3) {
			expectPlainAll(t, c, args, 1+(i*7+r.Intn(7))%n)
			if i == 3 {
				break
			}
		}
		count(n > 1, "several states")
		count(n > 20, "many states")
		count(len(g.States[n-1].Procs) > 1, "several processes")
		count(slices.Contains(g.Ends, api.EndStuck), "stuck")
		count(slices.Contains(g.Ends, api.EndDone), "done")
		count(len(g.Edges) > n-1, "more edges than new states")
	}
	expectSeen(t, 100, "too many states", "fuel used up", "several states", "many states", "several processes", "stuck", "done", "more edges than new states", "joined")
}
