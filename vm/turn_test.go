package vm_test

import (
	"fmt"
	"math"
	"slices"
	"testing"

	"scoria/api"
	"scoria/vm"
)

// expectNew is about the state that New returns, in words, and the error.
func expectNew(t *testing.T, c api.Code, args []int, fuel int, state string, wrong api.Errno) {
	t.Helper()
	s, e := expectPlainNew(t, c, args, fuel)
	if e != wrong || show(s) != state {
		t.Errorf("P10.1: %s, %d and not %s, %d for the arguments %v and the fuel %d", show(s), e, state, wrong, args, fuel)
	}
}

// noState is what New and Turn return together with ErrArg.
const noState = "0: "

// P10.1: too few and too many arguments.
func TestNumbersOfArguments(t *testing.T) {
	for params := range 4 {
		// The other functions do not matter.
		c := codeOf(t, 1, fmt.Sprintf("%d 5: recv 0, return", params), fmt.Sprintf("%d 3: push 1, return", (params+1)%4))
		for count := range 6 {
			args := []int{3, -8, 7, 1, 2}[:count]
			if count != params {
				expectNew(t, c, args, 10, noState, api.ErrArg)
				continue
			}
			words := slices.Concat(args, make([]int, 5-count))
			expectNew(t, c, args, 10, fmt.Sprintf("0: 0@0 %v [] # []", words), api.OK)
		}
		if params == 0 {
			expectNew(t, c, []int{}, 10, "0: 0@0 [0 0 0 0 0] [] # []", api.OK)
		} else {
			expectNew(t, c, []int{}, 10, noState, api.ErrArg)
		}
	}
}

// P10.1: arguments that are no words.
func TestWordsAsArguments(t *testing.T) {
	c := codeOf(t, 0, "3 3: load 1, return")
	for _, x := range []struct {
		n  int
		ok bool
	}{
		{math.MinInt, false}, {-1 << 32, false}, {-17, false}, {-16, false}, {-9, false}, {-8, true}, {-1, true}, {0, true}, {1, true}, {7, true}, {8, false}, {15, false}, {16, false}, {23, false}, {1 << 32, false}, {math.MaxInt, false},
	} {
		for at := range 3 {
			args := []int{3, 4, 5}
			args[at] = x.n
			if x.ok {
				expectNew(t, c, args, 1, fmt.Sprintf("1: 0@1 %v [%d]", args, args[1]), api.OK)
				continue
			}
			expectNew(t, c, args, 1, noState, api.ErrArg)
			expectNew(t, c, args, 4096, noState, api.ErrArg)
			// ErrArg is named before ErrFuel.
			expectNew(t, c, args, 0, noState, api.ErrArg)
			expectNew(t, c, args, -1, noState, api.ErrArg)
			expectNew(t, c, args[:2], 0, noState, api.ErrArg)
		}
	}
}

// P10.1: the fuel of New.
func TestFuelOfNew(t *testing.T) {
	loop := codeOf(t, 2, "0 1: push 3, store 0, jump 0")
	plain := codeOf(t, 0, "1 1: load 0, push 2, op add, out, push 0, return")
	faulty := codeOf(t, 0, "1 1: push 1, load 0, op div, return")
	for _, x := range []struct {
		name  string
		c     api.Code
		args  []int
		fuel  int
		state string
		e     api.Errno
	}{
		{"0", plain, []int{5}, 0, "0: 0@0 [5] []", api.ErrFuel},
		{"negative", plain, []int{5}, -1, "0: 0@0 [5] []", api.ErrFuel},
		{"the least", plain, []int{5}, math.MinInt, "0: 0@0 [5] []", api.ErrFuel},
		{"1", plain, []int{5}, 1, "1: 0@1 [5] [5]", api.ErrFuel},
		{"just before the first visible instruction", plain, []int{5}, 2, "2: 0@2 [5] [5 2]", api.ErrFuel},
		{"just there", plain, []int{5}, 3, "3: 0@3 [5] [7]", api.OK},
		{"more", plain, []int{5}, 4, "3: 0@3 [5] [7]", api.OK},
		{"the greatest", plain, []int{5}, math.MaxInt, "3: 0@3 [5] [7]", api.OK},
		{"just before a division by 0, which is visible", faulty, []int{0}, 2, "2: 0@2 [0] [1 0]", api.OK},
		{"before it", faulty, []int{0}, 1, "1: 0@1 [0] [1]", api.ErrFuel},
		{"just before a division by 1", faulty, []int{1}, 2, "2: 0@2 [1] [1 1]", api.ErrFuel},
		{"just before a result", faulty, []int{1}, 3, "3: 0@3 [1] [1]", api.OK},
		{"a handled division by 0", codeOf(t, 0, "0 1: try 5 0, push 1, push 0, op div, return, load 0, return"), nil, 3, "3: 0@3 [0] [1 0] {5 0 0}", api.ErrFuel},
		{"after it", codeOf(t, 0, "0 1: try 5 0, push 1, push 0, op div, return, load 0, return"), nil, 4, "4: 0@5 [2] []", api.ErrFuel},
		{"a throw", codeOf(t, 0, "0 0: push 4, throw"), nil, 1, "1: 0@1 [] [4]", api.OK},
		{"a handled throw", codeOf(t, 0, "0 1: try 3 0, push 4, throw, load 0, return"), nil, 2, "2: 0@2 [0] [4] {3 0 0}", api.ErrFuel},
		{"a result in a frame above", codeOf(t, 0, "0 0: call 1 0, return", "0 0: push 4, return"), nil, 2, "2: 0@1 [] [] > 1@1 [] [4]", api.ErrFuel},
		{"after it", codeOf(t, 0, "0 0: call 1 0, return", "0 0: push 4, return"), nil, 3, "3: 0@1 [] [4]", api.OK},
		{"the eighth call", codeOf(t, 0, "0 0: call 0 0, return"), nil, 6, "6: 0@1 [] [] > 0@1 [] [] > 0@1 [] [] > 0@1 [] [] > 0@1 [] [] > 0@1 [] [] > 0@0 [] []", api.ErrFuel},
		{"an endless loop", loop, nil, 100, "100: 0@1 [3] [3] # [] []", api.ErrFuel},
		{"all the fuel there is", loop, nil, 4096, "4096: 0@1 [3] [3] # [] []", api.ErrFuel},
		{"an endless loop of one instruction", codeOf(t, 0, "0 0: jump 0"), nil, 7, "7: 0@0 [] []", api.ErrFuel},
		{"a first instruction that receives", codeOf(t, 3, "2 3: recv 1, return"), []int{1, 2}, 0, "0: 0@0 [1 2 0] [] # [] [] []", api.OK},
		{"the same with a negative fuel", codeOf(t, 1, "0 0: recv 0, return"), nil, -5, "0: 0@0 [] [] # []", api.OK},
		{"a first instruction that starts a process", codeOf(t, 0, "0 0: spawn 0 0, push 1, return"), nil, 0, "0: 0@0 [] []", api.OK},
		{"the same with the least fuel", codeOf(t, 0, "0 0: spawn 0 0, push 1, return"), nil, math.MinInt, "0: 0@0 [] []", api.OK},
	} {
		t.Run(x.name, func(t *testing.T) { expectNew(t, x.c, x.args, x.fuel, x.state, x.e) })
	}
}

// expectTurn is about the state that Turn returns, in words, the events, and the error.
func expectTurn(t *testing.T, c api.Code, s api.State, proc, fuel int, state, events string, wrong api.Errno) {
	t.Helper()
	before := show(s)
	got, list, e := expectPlainTurn(t, c, s, proc, fuel)
	if e != wrong || show(got) != state || told(list) != events {
		t.Errorf("P10.3: %s, %s, %d and not %s, %s, %d for %s, the process %d and the fuel %d", show(got), told(list), e, state, events, wrong, before, proc, fuel)
	}
	if show(s) != before {
		t.Errorf("Rules: %s has become %s", before, show(s))
	}
}

// P10.3: a visible instruction for which the fuel is used up, and one for which there is just enough.
func TestFuelOfVisible(t *testing.T) {
	for _, x := range []struct {
		text, state, after, events string
	}{
		{"push 4, out, recv 0, return", "1: 0@1 [0] [4] # []", "2: 0@2 [0] [] # []", "0 out 4"},
		{"push 4, send 0, recv 0, return", "1: 0@1 [0] [4] # []", "2: 0@2 [0] [] # [4]", ""},
		{"push 4, spawn 1 0, return", "1: 0@1 [0] [4] # []", "2: 0@2 [0] [4] | 1@0 [] [] # []", ""},
		{"push 4, return", "1: 0@1 [0] [4] # []", "2: - # []", "0 end 4"},
		{"push 4, throw", "1: 0@1 [0] [4] # []", "2: - # []", "0 fault 4"},
		{"push 4, elem 0 1, return", "1: 0@1 [0] [4] # []", "2: - # []", "0 fault 1"},
	} {
		c := codeOf(t, 1, "0 1: "+x.text, "0 0: recv 0, return")
		s, _ := play(t, c, nil)
		if show(s) != x.state {
			t.Fatalf("P10.1: %s and not %s for %s", show(s), x.state, x.text)
		}
		for _, fuel := range []int{math.MinInt, -1, 0, 1} {
			expectTurn(t, c, s, 0, fuel, x.state, "", api.ErrFuel)
		}
		for _, fuel := range []int{2, 3, 4096, math.MaxInt} {
			expectTurn(t, c, s, 0, fuel, x.after, x.events, api.OK)
		}
		expectTurn(t, c, s, 1, 1, noState, "", api.ErrArg)
	}
	// A word is received.
	c := codeOf(t, 1, "0 0: push 4, send 0, recv 0, return")
	s, _ := play(t, c, nil, 0)
	expectTurn(t, c, s, 0, 2, "2: 0@2 [] [] # [4]", "", api.ErrFuel)
	expectTurn(t, c, s, 0, 3, "3: 0@3 [] [4] # []", "", api.OK)
}

// P10.3: the fuel is used up while the process goes on; the event of the turn is returned all the same.
func TestFuelOfTurn(t *testing.T) {
	c := codeOf(t, 0, "0 1: push 5, out, try 8 0, push 6, throw, push 1, done, return, load 0, push 2, op mul, return")
	s, _ := play(t, c, nil)
	for fuel, want := range []string{
		"1: 0@1 [0] [5]", "1: 0@1 [0] [5]", "2: 0@2 [0] []", "3: 0@3 [0] [] {8 0 0}", "4: 0@4 [0] [6] {8 0 0}", "5: 0@8 [6] []", "6: 0@9 [6] [6]", "7: 0@10 [6] [6 2]", "8: 0@11 [6] [-4]", "8: 0@11 [6] [-4]",
	} {
		events, e := "0 out 5", api.OK
		if fuel < 2 {
			events = ""
		}
		if fuel < 8 {
			e = api.ErrFuel
		}
		expectTurn(t, c, s, 0, fuel, want, events, e)
	}
	// For the end of a process, the fuel has to be enough for one instruction alone.
	s, _ = play(t, c, nil, 0)
	expectTurn(t, c, s, 0, 8, "8: 0@11 [6] [-4]", "", api.ErrFuel)
	expectTurn(t, c, s, 0, 9, "9: -", "0 end -4", api.OK)
}

// P10.3: a process that was started goes on, after the one that has started it.
func TestStarted(t *testing.T) {
	brief := codeOf(t, 0, "0 0: spawn 1 0, push 1, push 2, out, return", "0 0: push 3, push 4, out, return")
	waiting := codeOf(t, 1, "0 0: spawn 1 0, push 1, push 2, out, return", "0 2: recv 0, return")
	endless := codeOf(t, 0, "0 0: spawn 1 0, push 1, return", "0 1: push 3, store 0, jump 0")
	parent := codeOf(t, 0, "0 1: spawn 1 0, jump 1", "0 0: push 2, return")
	for _, x := range []struct {
		c      api.Code
		enough int
		states []string
	}{
		{brief, 5, []string{"0: 0@0 [] []", "1: 0@1 [] [] | 1@0 [] []", "2: 0@2 [] [1] | 1@0 [] []", "3: 0@3 [] [1 2] | 1@0 [] []", "4: 0@3 [] [1 2] | 1@1 [] [3]", "5: 0@3 [] [1 2] | 1@2 [] [3 4]", "5: 0@3 [] [1 2] | 1@2 [] [3 4]"}},
		{waiting, 3, []string{"0: 0@0 [] [] # []", "1: 0@1 [] [] | 1@0 [0 0] [] # []", "2: 0@2 [] [1] | 1@0 [0 0] [] # []", "3: 0@3 [] [1 2] | 1@0 [0 0] [] # []", "3: 0@3 [] [1 2] | 1@0 [0 0] [] # []"}},
		{endless, 99, []string{"0: 0@0 [] []", "1: 0@1 [] [] | 1@0 [0] []", "2: 0@2 [] [1] | 1@0 [0] []", "3: 0@2 [] [1] | 1@1 [0] [3]", "4: 0@2 [] [1] | 1@2 [3] []", "5: 0@2 [] [1] | 1@0 [3] []", "6: 0@2 [] [1] | 1@1 [3] [3]"}},
		{parent, 99, []string{"0: 0@0 [0] []", "1: 0@1 [0] [] | 1@0 [] []", "2: 0@1 [0] [] | 1@0 [] []", "3: 0@1 [0] [] | 1@0 [] []"}},
	} {
		s, _ := play(t, x.c, nil)
		for fuel, want := range x.states {
			e := api.OK
			if fuel < x.enough {
				e = api.ErrFuel
			}
			expectTurn(t, x.c, s, 0, fuel, want, "", e)
		}
		expectTurn(t, x.c, s, 0, -3, x.states[0], "", api.ErrFuel)
	}
	// It goes on in this turn alone, and no other process does.
	s, _ := play(t, brief, nil, 0)
	expectTurn(t, brief, s, 1, 9, "6: 0@3 [] [1 2] | 1@3 [] [3]", "1 out 4", api.OK)
	expectTurn(t, brief, s, 0, 9, "6: 0@4 [] [1] | 1@2 [] [3 4]", "0 out 2", api.OK)
}

// P10.3: turns that are not possible.
func TestNoTurn(t *testing.T) {
	c := codeOf(t, 2, "0 0: spawn 1 0, spawn 2 0, push 1, push 2, send 1, send 1, push 3, push 4, send 1, return", "0 0: recv 0, return", "0 0: push 5, return")
	s, _ := play(t, c, nil, 0, 0, 0, 0, 2)
	if show(s) != "10: 0@8 [] [3 4] | 1@0 [] [] | - # [] [2 1]" {
		t.Fatalf("P10.3: %s", show(s))
	}
	for _, fuel := range []int{math.MinInt, 0, 9, 10, 11, 4096} {
		for _, proc := range []int{math.MinInt, -2, -1, 0, 1, 2, 3, 4, math.MaxInt} {
			expectTurn(t, c, s, proc, fuel, noState, "", api.ErrArg)
		}
	}
	if vm.Ended(c, s) != api.EndStuck || len(vm.Ready(c, s)) > 0 {
		t.Errorf("P10.4: %d, %v", vm.Ended(c, s), vm.Ready(c, s))
	}
	// All have ended.
	c = codeOf(t, 0, "0 0: push 5, return")
	s, _ = play(t, c, nil, 0)
	for _, proc := range []int{-1, 0, 1} {
		expectTurn(t, c, s, proc, 100, noState, "", api.ErrArg)
	}
}

// P10.3: an ISend to a channel with 1 and with 2 words, an IRecv from one without words, with 1 and with 2.
func TestFullAndEmpty(t *testing.T) {
	c := codeOf(t, 2, "0 0: spawn 1 0, push 1, send 1, push 2, send 1, push 3, send 1, push 4, return", "0 0: recv 1, drop, recv 1, drop, recv 1, return")
	for _, x := range []struct {
		turns []int
		state string
		ready []int
	}{
		{nil, "0: 0@0 [] [] # [] []", []int{0}},
		{[]int{0}, "2: 0@2 [] [1] | 1@0 [] [] # [] []", []int{0}},
		{[]int{0, 0}, "4: 0@4 [] [2] | 1@0 [] [] # [] [1]", []int{0, 1}},
		{[]int{0, 0, 0}, "6: 0@6 [] [3] | 1@0 [] [] # [] [1 2]", []int{1}},
		{[]int{0, 0, 1}, "6: 0@4 [] [2] | 1@2 [] [] # [] []", []int{0}},
		{[]int{0, 0, 0, 1}, "8: 0@6 [] [3] | 1@2 [] [] # [] [2]", []int{0, 1}},
		{[]int{0, 0, 0, 1, 0}, "10: 0@8 [] [4] | 1@2 [] [] # [] [2 3]", []int{0, 1}},
		{[]int{0, 0, 0, 1, 0, 1}, "12: 0@8 [] [4] | 1@4 [] [] # [] [3]", []int{0, 1}},
		{[]int{0, 0, 0, 1, 0, 1, 1}, "13: 0@8 [] [4] | 1@5 [] [3] # [] []", []int{0, 1}},
		{[]int{0, 0, 0, 1, 0, 1, 0}, "13: - | 1@4 [] [] # [] [3]", []int{1}},
		{[]int{0, 0, 0, 1, 0, 1, 0, 1}, "14: - | 1@5 [] [3] # [] []", []int{1}},
		{[]int{0, 0, 0, 1, 0, 1, 0, 1, 1}, "15: - | - # [] []", nil},
	} {
		s, _ := play(t, c, nil, x.turns...)
		if show(s) != x.state {
			t.Errorf("P10.3: %s and not %s after %v", show(s), x.state, x.turns)
		}
		end := -1
		if x.ready == nil {
			end = api.EndDone
		}
		if got := vm.Ready(c, s); !slices.Equal(got, x.ready) || vm.Ended(c, s) != end {
			t.Errorf("P10.2, P10.4: %v, %d for %s", got, vm.Ended(c, s), show(s))
		}
		for proc := range 3 {
			_, _, e := expectPlainTurn(t, c, s, proc, 100)
			if (e == api.OK) != slices.Contains(x.ready, proc) {
				t.Errorf("P10.3: the error %d for the process %d of %s", e, proc, show(s))
			}
		}
	}
}

// P10.2, P10.4: which processes are ready, and whether the state has ended.
func TestReadyAndEnded(t *testing.T) {
	waits := codeOf(t, 3, "0 0: spawn 1 0, spawn 1 0, recv 2, return", "0 0: recv 1, return")
	first := codeOf(t, 0, "0 0: spawn 1 0, push 1, return", "0 0: push 2, return")
	for i, x := range []struct {
		c     api.Code
		turns []int
		ready []int
		end   int
	}{
		{first, nil, []int{0}, -1},
		{first, []int{0}, []int{0, 1}, -1},
		{first, []int{0, 0}, []int{1}, -1},
		{first, []int{0, 1}, []int{0}, -1},
		{first, []int{0, 1, 0}, nil, api.EndDone},
		{first, []int{0, 0, 1}, nil, api.EndDone},
		{waits, []int{0}, []int{0}, -1},
		{waits, []int{0, 0}, nil, api.EndStuck},
		{codeOf(t, 1, "0 0: recv 0, return"), nil, nil, api.EndStuck},
		{codeOf(t, 1, "0 0: spawn 1 0, recv 0, return", "0 0: push 1, return"), []int{0}, []int{1}, -1},
		{codeOf(t, 1, "0 0: spawn 1 0, recv 0, return", "0 0: push 1, return"), []int{0, 1}, nil, api.EndStuck},
		{codeOf(t, 1, "0 0: spawn 1 0, push 1, return", "0 0: recv 0, return"), []int{0, 0}, nil, api.EndStuck},
		{codeOf(t, 1, "0 0: push 1, push 2, push 3, send 0, send 0, send 0, push 1, return"), []int{0, 0}, nil, api.EndStuck},
		{codeOf(t, 2, "0 0: push 1, push 2, push 3, send 0, send 0, send 1, push 1, return"), []int{0, 0}, []int{0}, -1},
		{codeOf(t, 0, "0 0: push 1, throw"), []int{0}, nil, api.EndDone},
		{codeOf(t, 0, "0 0: spawn 0 0, push 1, return"), []int{0, 0, 1, 2, 3}, []int{1, 2}, -1},
	} {
		s, _ := play(t, x.c, nil, x.turns...)
		if got := vm.Ready(x.c, s); !slices.Equal(got, x.ready) {
			t.Errorf("P10.2: %v and not %v in %d: %s", got, x.ready, i, show(s))
		}
		if got := vm.Ended(x.c, s); got != x.end {
			t.Errorf("P10.4: %d and not %d in %d: %s", got, x.end, i, show(s))
		}
		expectPlainState(t, x.c, s)
	}
}

// The examples at the end of the chapter.
func TestExamples(t *testing.T) {
	c := codeOf(t, 0, "0 1: push 3, store 0, load 0, out, push 7, return")
	s, events, e := vm.New(c, nil, 100)
	if show(s) != "3: 0@3 [3] [3]" || len(events) > 0 || e != api.OK || vm.Ended(c, s) != -1 {
		t.Errorf("P10.1: %s, %v, %d", show(s), events, e)
	}
	s, events, e = vm.Turn(c, s, 0, 100)
	if show(s) != "5: 0@5 [3] [7]" || told(events) != "0 out 3" || e != api.OK || vm.Ended(c, s) != -1 {
		t.Errorf("P10.3: %s, %v, %d", show(s), events, e)
	}
	s, events, e = vm.Turn(c, s, 0, 100)
	if show(s) != "6: -" || told(events) != "0 end 7" || e != api.OK || vm.Ended(c, s) != api.EndDone {
		t.Errorf("P10.3: %s, %v, %d", show(s), events, e)
	}
	expectNew(t, c, nil, 2, "2: 0@2 [3] []", api.ErrFuel)
}
