package vm_test

import (
	"fmt"
	"strings"
	"testing"

	"scoria/api"
)

// P10.1, P10.3: which handler gets a code that is thrown, and what becomes of the frames.
func TestThrow(t *testing.T) {
	nested := "0 2: try 11 0, push 5, try 6 1, push 4, push -2, throw, push 0, out, push 7, throw, return, load 0, load 1, out, return"
	deep := []string{
		"0 2: push 6, try 6 1, push 5, call 1 0, done, return, load 1, out, return",
		"0 1: push 1, push 2, call 2 0, return",
		"0 0: push 3, throw",
	}
	middle := []string{
		"0 1: try 6 0, call 1 0, out, done, push 0, return, load 0, return",
		"0 1: push 1, try 4 0, call 2 0, return, push 0, out, load 0, return",
		"0 0: push 3, throw",
	}
	apart := []string{
		"0 1: try 4 0, spawn 1 0, push 1, throw, load 0, out, push 0, return",
		"0 1: push 2, throw",
	}
	for _, x := range []scene{
		{name: "in the same frame", funs: []string{"0 2: push 6, try 5 1, push 4, push 3, throw, load 1, out, return"}, state: "6: 0@6 [0 3] [6 3]"},
		{name: "the code 0", funs: []string{"1 1: try 3 0, push 0, throw, push 1, out, load 0, return"}, args: []int{5}, state: "4: 0@4 [0] [1]"},
		{name: "the inner handler", funs: []string{nested}, state: "7: 0@7 [0 -2] [5 0] {11 0 0}"},
		{name: "then the outer handler", funs: []string{nested}, turns: turns(1), state: "12: 0@13 [7 -2] [7 -2]", events: "0 out 0"},
		{name: "two frames further below", funs: deep, state: "10: 0@7 [0 3] [6 3]"},
		{name: "in the innermost frame that has a handler", funs: middle, state: "8: 0@2 [0] [] {6 0 0} > 1@5 [3] [1 0]"},
		{name: "in this one, and then", funs: middle, turns: turns(1), state: "11: 0@2 [0] [3] {6 0 0}", events: "0 out 0"},
		{name: "none, before it", funs: one("push 2, push 3, throw"), state: "2: 0@2 [] [2 3]"},
		{name: "none", funs: one("push 2, push 3, throw"), turns: turns(1), state: "3: -", events: "0 fault 3"},
		{name: "none for 0", funs: one("push 2, push 0, throw"), turns: turns(1), state: "3: -", events: "0 fault 0"},
		{name: "none in two frames, before it", funs: []string{"0 0: push 2, call 1 0, return", "0 0: push -8, throw"}, state: "3: 0@2 [] [2] > 1@1 [] [-8]"},
		{name: "none in two frames", funs: []string{"0 0: push 2, call 1 0, return", "0 0: push -8, throw"}, turns: turns(1), state: "4: -", events: "0 fault -8"},
		{name: "after IDone", funs: []string{"0 1: try 4 0, done, push 3, throw, push 1, return"}, turns: turns(1), state: "4: -", events: "0 fault 3"},
		{name: "by the handler itself", funs: []string{"0 1: try 3 0, push 3, throw, load 0, throw"}, turns: turns(1), state: "5: -", events: "0 fault 3"},
		{name: "after the frame with the handler", funs: []string{"0 0: call 1 0, throw", "0 1: try 3 0, push 5, return, push 1, return"}, turns: turns(1), state: "5: -", events: "0 fault 5"},
		{name: "the handler at a place before", funs: []string{"0 1: jump 3, load 0, return, try 1 0, push 5, throw"}, turns: turns(1), state: "6: -", events: "0 end 5"},
		{name: "the handler of another process, before it", funs: apart, turns: turns(1), state: "6: 0@5 [1] [1] | 1@1 [0] [2]"},
		{name: "the handler of another process", funs: []string{"0 1: try 6 0, spawn 1 0, push 1, out, push 0, return, load 0, return", "0 1: push 2, throw"}, turns: []int{0, 1}, state: "5: 0@3 [0] [1] {6 0 0} | -", events: "1 fault 2"},
	} {
		x.expect(t)
	}
}

// raise is what throws a code: instructions, how many of them are executed, and the code.
type raise struct {
	text  string
	steps int
	code  int
}

// raises has all instructions that throw a code wherever they stand.
var raises = []raise{
	{"push -5, throw", 2, -5},
	{"push 0, throw", 2, 0},
	{"push 4, elem 0 4, drop", 2, api.ExIndex},
	{"push -1, elem 2 2, drop", 2, api.ExIndex},
	{"push 4, push 7, put 0 4", 3, api.ExIndex},
	{"push -8, push 7, put 3 1", 3, api.ExIndex},
	{"push 3, push 0, op div, drop", 3, api.ExZero},
	{"push 0, push 0, op mod, drop", 3, api.ExZero},
}

// P10.1, P10.3: each of them with a handler in the same frame, at a height, with several handlers, with one in frames below, and with none.
func TestRaises(t *testing.T) {
	for _, x := range raises {
		n := strings.Count(x.text, ",") + 1
		for _, y := range []scene{
			{
				name:  "the same frame",
				funs:  []string{fmt.Sprintf("0 6: try %d 5, %s, done, push 0, return, load 5, out, push 0, return", n+4, x.text)},
				state: fmt.Sprintf("%d: 0@%d [0 0 0 0 0 %d] [%d]", 2+x.steps, n+5, x.code, x.code),
			}, {
				name:  "a height",
				funs:  []string{fmt.Sprintf("0 6: push 6, push -7, try %d 4, push 1, %s, drop, done, return, load 4, out, return", n+7, x.text)},
				state: fmt.Sprintf("%d: 0@%d [0 0 0 0 %d 0] [6 -7 %d]", 5+x.steps, n+8, x.code, x.code),
			}, {
				name:  "several",
				funs:  []string{fmt.Sprintf("0 6: try %d 5, push 6, try %d 4, %s, done, done, return, load 4, out, done, return, load 5, return", n+10, n+6, x.text)},
				state: fmt.Sprintf("%d: 0@%d [0 0 0 0 %d 0] [6 %d] {%d 5 0}", 4+x.steps, n+7, x.code, x.code, n+10),
			}, {
				name:  "a frame below",
				funs:  []string{"0 1: push 6, try 6 0, push 1, call 1 0, done, return, load 0, out, return", fmt.Sprintf("0 4: push 2, %s, return", x.text)},
				state: fmt.Sprintf("%d: 0@7 [%d] [6 %d]", 6+x.steps, x.code, x.code),
			}, {
				name:  "two frames below",
				funs:  []string{"0 1: push 6, try 6 0, push 1, call 1 0, done, return, load 0, out, return", "0 0: push 2, call 2 0, return", fmt.Sprintf("0 4: %s, push 3, return", x.text)},
				state: fmt.Sprintf("%d: 0@7 [%d] [6 %d]", 7+x.steps, x.code, x.code),
			}, {
				name:   "none",
				funs:   []string{fmt.Sprintf("0 4: push 6, %s, return", x.text)},
				turns:  turns(1),
				state:  fmt.Sprintf("%d: -", 1+x.steps),
				events: fmt.Sprintf("0 fault %d", x.code),
			}, {
				name:   "none in two frames",
				funs:   []string{"0 0: push 1, call 1 0, return", fmt.Sprintf("0 4: push 6, %s, return", x.text)},
				turns:  turns(1),
				state:  fmt.Sprintf("%d: -", 3+x.steps),
				events: fmt.Sprintf("0 fault %d", x.code),
			},
		} {
			y.name = x.text + " with a handler in: " + y.name
			y.expect(t)
		}
		// Before it, the process stands at what throws the code.
		c := codeOf(t, 0, fmt.Sprintf("0 4: push 6, %s, return", x.text))
		if s, _ := play(t, c, nil); s.Steps != x.steps || s.Procs[0].Frames[0].At != x.steps {
			t.Errorf("P10.1: %s for %s", show(s), x.text)
		}
	}
}

// chain is code in which the function 1 calls itself as often as its argument says; the innermost call of it has a handler, and executes last.
func chain(t *testing.T, depth int, last string) api.Code {
	t.Helper()
	return codeOf(t, 0,
		fmt.Sprintf("0 0: push %d, call 1 1, out, push 0, return", depth),
		fmt.Sprintf("1 2: load 0, false 7, load 0, push 1, op sub, call 1 1, return, push -3, try %d 1, %s, done, return, load 1, return", 12+strings.Count(last, ","), last),
		"2 2: load 0, load 1, op sub, return",
	)
}

// P10.1, P10.3: calls with 7 and with 8 frames.
func TestDeepCalls(t *testing.T) {
	for _, x := range []struct {
		depth, want int
	}{{0, 4}, {5, 4}, {6, api.ExDeep}} {
		s, events := play(t, chain(t, x.depth, "push 6, push 2, call 2 2"), nil, 0)
		if told(events) != fmt.Sprintf("0 out %d", x.want) || len(s.Procs[0].Frames) != 1 {
			t.Errorf("P10.3: %s, %s", show(s), told(events))
		}
	}
	frames := func(s string, n int) string { return strings.Repeat(s+" > ", n-1) + s }
	// The handler stands in the eighth frame; its height is 1, and the arguments of the call above it are gone.
	s, _ := play(t, chain(t, 6, "push 6, push 2, call 2 2, out, push 1"), nil)
	if len(s.Procs[0].Frames) != 1 || s.Procs[0].Frames[0].Stack[0] != api.ExDeep {
		t.Errorf("P10.1: %s", show(s))
	}
	for _, x := range []scene{
		{name: "seven calls", funs: one("call 0 0, return"), state: "7: " + frames("0@1 [] []", 7) + " > 0@0 [] []"},
		{name: "the eighth one", funs: one("call 0 0, return"), turns: turns(1), state: "8: -", events: "0 fault 3"},
		{name: "with a handler in the last frame", funs: []string{"0 1: try 3 0, call 0 0, return, push 1, out, load 0, return"}, state: "17: " + frames("0@2 [0] [] {3 0 0}", 7) + " > 0@4 [3] [1]"},
		{name: "it returns", funs: []string{"0 1: try 3 0, call 0 0, return, push 1, out, load 0, return"}, turns: turns(1), state: "26: 0@2 [0] [3] {3 0 0}", events: "0 out 1"},
		{name: "with arguments", funs: []string{"0 1: push 6, try 6 0, push 5, push 4, call 1 2, return, load 0, out, return", "2 2: push 3, load 0, load 1, call 1 2, return"}, state: "34: 0@7 [3] [6 3]"},
		{name: "frames that have returned", funs: []string{"0 1: push 4, store 0, load 0, false 11, call 1 0, drop, load 0, push 1, op sub, store 0, jump 2, call 1 0, out, push 0, return", "0 0: call 2 0, return", "0 0: push 7, return"}, state: "61: 0@12 [0] [7]"},
	} {
		x.expect(t)
	}
}

// P10.3: processes that are started when there are three and when there are four.
func TestManyProcesses(t *testing.T) {
	starts := "spawn 1 0, spawn 1 0, push 6, spawn 1 0, "
	child := "0 0: push 2, return"
	waits := "1@1 [] [2]"
	for _, x := range []scene{
		{name: "three", funs: []string{"0 0: " + starts + "spawn 1 0, return", child}, turns: turns(2), state: "5: 0@3 [] [6] | " + waits + " | " + waits},
		{name: "four", funs: []string{"0 0: " + starts + "spawn 1 0, return", child}, turns: turns(3), state: "7: 0@4 [] [6] | " + waits + " | " + waits + " | " + waits},
		{name: "a fifth one", funs: []string{"0 0: " + starts + "spawn 1 0, return", child}, turns: turns(4), state: "8: - | " + waits + " | " + waits + " | " + waits, events: "0 fault 4"},
		{name: "a fifth one, when others have ended", funs: []string{"0 0: " + starts + "spawn 1 0, return", child}, turns: []int{0, 0, 0, 1, 2, 3, 0}, state: "11: - | - | - | -", events: "1 end 2, 2 end 2, 3 end 2, 0 fault 4"},
		{name: "the fourth one, when others have ended", funs: []string{"0 0: " + starts + "spawn 1 0, return", child}, turns: []int{0, 1, 0, 2, 0}, state: "9: 0@4 [] [6] | - | - | " + waits, events: "1 end 2, 2 end 2"},
		{name: "a fifth one with a handler", funs: []string{"0 1: " + starts + "try 10 0, push 3, push 2, spawn 2 2, done, return, load 0, out, return", child, "2 2: push 0, return"}, turns: turns(4), state: "12: 0@11 [4] [6 4] | " + waits + " | " + waits + " | " + waits},
		{name: "a fifth one with a handler below", funs: []string{"0 1: " + starts + "try 8 0, call 2 0, done, return, load 0, out, return", child, "0 1: spawn 1 0, push 1, return"}, turns: turns(4), state: "11: 0@9 [4] [6 4] | " + waits + " | " + waits + " | " + waits},
		{name: "a fifth one by another process", funs: []string{"0 0: spawn 1 0, spawn 2 0, spawn 2 0, push 1, return", "0 0: spawn 2 0, push 1, return", "0 0: push 2, return"}, turns: []int{0, 0, 0, 1}, state: "7: 0@4 [] [1] | - | 2@1 [] [2] | 2@1 [] [2]", events: "1 fault 4"},
	} {
		x.expect(t)
	}
}
