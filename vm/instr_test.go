package vm_test

import (
	"fmt"
	"slices"
	"strconv"
	"strings"
	"testing"

	"scoria/api"
	"scoria/vm"
	"scoria/word"
)

// P10.1, P10.3: each instruction, with the order of its operands and its result.
func TestInstructions(t *testing.T) {
	for _, x := range []scene{
		{name: "IPush", funs: one("push -8, push 7, out, return"), state: "2: 0@2 [] [-8 7]"},
		{name: "ILoad", funs: []string{"3 3: load 0, load 2, load 1, out, return"}, args: []int{1, 2, 3}, state: "3: 0@3 [1 2 3] [1 3 2]"},
		{name: "IStore", funs: []string{"2 3: push 5, push 6, store 2, store 0, push 0, out, push 0, return"}, args: []int{1, 2}, state: "5: 0@5 [5 2 6] [0]"},
		{name: "IElem", funs: []string{"3 3: push 0, elem 1 2, push 1, elem 1 2, push 2, elem 0 3, push 0, elem 0 1, out, return"}, args: []int{4, 5, 6}, state: "8: 0@8 [4 5 6] [5 6 6 4]"},
		{name: "IPut", funs: []string{"0 5: push 1, push 7, put 1 3, push 0, push -8, put 1 3, push 2, push 3, put 1 3, push 0, out, push 0, return"}, state: "10: 0@10 [0 -8 7 3 0] [0]"},
		{name: "IPut with an element below", funs: []string{"0 4: push 4, push 3, push 2, put 0 4, out, push 0, return"}, state: "4: 0@4 [0 0 0 2] [4]"},
		{name: "IOp Sub", funs: one("push 5, push 6, push 4, op sub, out, return"), state: "4: 0@4 [] [5 2]"},
		{name: "IOp Div", funs: one("push 5, push -7, push 2, op div, out, return"), state: "4: 0@4 [] [5 -3]"},
		{name: "IOp Less", funs: one("push 3, push 2, op less, push 2, push 3, op less, out, return"), state: "6: 0@6 [] [0 1]"},
		{name: "IOp Add", funs: one("push 7, push 1, op add, out, push 0, return"), state: "3: 0@3 [] [-8]"},
		{name: "INot", funs: one("push 0, not, push 1, not, push -8, not, push 5, out, return"), state: "7: 0@7 [] [1 0 0 5]"},
		{name: "IJump ahead", funs: one("jump 3, push 1, return, push 2, out, push 3, return"), state: "2: 0@4 [] [2]"},
		{name: "IJump back", funs: one("jump 5, push 1, out, push 0, return, jump 1"), state: "3: 0@2 [] [1]"},
		{name: "IFalse of 0", funs: one("push 5, push 0, false 5, push 1, out, push 2, out, return"), state: "4: 0@6 [] [5 2]"},
		{name: "IFalse of 1", funs: one("push 5, push 1, false 5, push 1, out, push 2, out, return"), state: "4: 0@4 [] [5 1]"},
		{name: "IFalse back", funs: one("jump 4, push 1, out, return, push 3, push 0, false 1, return"), state: "5: 0@2 [] [3 1]"},
		{name: "ICall", funs: []string{"0 0: push 1, push 2, push 3, call 1 2, out, return", "2 4: load 1, load 0, out, return"}, state: "6: 0@4 [] [1] > 1@2 [2 3 0 0] [3 2]"},
		{name: "ICall with three arguments", funs: []string{"0 1: push 1, push 2, push 3, call 1 3, out, push 0, return", "3 3: push 0, out, load 0, return"}, state: "5: 0@4 [0] [] > 1@1 [1 2 3] [0]"},
		{name: "ICall without arguments", funs: []string{"0 1: push 1, call 2 0, out, return", "0 0: push 0, return", "0 2: push 0, out, load 0, return"}, state: "3: 0@2 [0] [1] > 2@1 [0 0] [0]"},
		{name: "ICall of the function itself", funs: []string{"1 2: push 4, store 1, push 6, load 0, false 7, push 1, return, push 1, call 0 1, out, return"}, args: []int{0}, state: "14: 0@9 [0 4] [6 1]"},
		{name: "IReturn", funs: []string{"0 0: push 1, push 2, push 3, call 1 2, out, return", "2 4: load 1, load 0, out, return"}, turns: turns(1), state: "8: 0@4 [] [1 3]", events: "0 out 2"},
		{name: "IReturn with more on the stack", funs: []string{"0 0: push 6, call 1 0, out, return", "0 1: push 4, push 5, return"}, state: "5: 0@2 [] [6 5]"},
		{name: "IReturn with a handler", funs: []string{"0 0: push 6, call 1 0, out, return", "0 1: try 3 0, push 5, return, push 1, return"}, state: "5: 0@2 [] [6 5]"},
		{name: "IReturn that ends, before it", funs: one("push 4, push 5, return"), state: "2: 0@2 [] [4 5]"},
		{name: "IReturn that ends", funs: one("push 4, push 5, return"), turns: turns(1), state: "3: -", events: "0 end 5"},
		{name: "IReturn that ends, with a handler", funs: []string{"0 1: try 3 0, push -5, return, push 1, return"}, turns: turns(1), state: "3: -", events: "0 end -5"},
		{name: "ITry", funs: []string{tries}, state: "5: 0@5 [0 0 0] [4 5 0] {9 2 1} {7 1 2}"},
		{name: "IDone", funs: []string{tries}, turns: turns(1), state: "10: 0@10 [0 0 0] [4 0]", events: "0 out 0"},
		{name: "IDone of the inner one", funs: []string{"0 2: try 8 0, try 9 1, done, push 1, out, done, push 0, return, jump 6, done, jump 6"}, state: "4: 0@4 [0 0] [1] {8 0 0}"},
		{name: "24 words", funs: []string{"0 24: push 5, store 23, call 1 0, return", "0 24: push 6, store 23, load 23, out, push 0, return"}, state: fmt.Sprintf("6: 0@3 [%s5] [] > 1@3 [%s6] [6]", strings.Repeat("0 ", 23), strings.Repeat("0 ", 23))},
		{name: "IOut", funs: one("push 1, push 2, out, push 3, out, return"), turns: turns(1), state: "4: 0@4 [] [1 3]", events: "0 out 2"},
		{name: "IOut twice", funs: one("push 1, push -8, out, push 7, out, return"), turns: turns(2), state: "5: 0@5 [] [1]", events: "0 out -8, 0 out 7"},
		{name: "IDrop", funs: one("push 1, push 2, drop, out, push 0, return"), state: "3: 0@3 [] [1]"},
	} {
		x.expect(t)
	}
}

// tries is a function with two handlers, one in the other.
const tries = "0 3: push 4, try 9 2, push 5, try 7 1, push 0, out, done, drop, done, push 0, out, return"

// P10.1, P10.3: channels.
func TestChannels(t *testing.T) {
	funs := one("push 1, push 2, send 1, push 3, send 1, recv 1, recv 1, push 4, send 0, out, return")
	for i, x := range []scene{
		{state: "2: 0@2 [] [1 2] # [] []"},
		{state: "4: 0@4 [] [1 3] # [] [2]"},
		{state: "5: 0@5 [] [1] # [] [2 3]"},
		{state: "6: 0@6 [] [1 2] # [] [3]"},
		{state: "8: 0@8 [] [1 2 3 4] # [] []"},
		{state: "9: 0@9 [] [1 2 3] # [4] []"},
		{state: "10: 0@10 [] [1 2] # [4] []", events: "0 out 3"},
		{state: "11: - # [4] []", events: "0 out 3, 0 end 2"},
	} {
		x.name, x.chans, x.funs, x.turns = "turn "+strconv.Itoa(i), 2, funs, turns(i)
		x.expect(t)
	}
}

// P10.1: the result of every operation for all words, or what it throws.
func TestOperations(t *testing.T) {
	for op := range api.Bins {
		for a := -8; a <= 7; a++ {
			for b := -8; b <= 7; b++ {
				c := codeOf(t, 0, fmt.Sprintf("2 2: push 3, load 0, load 1, op %d, out, return", op))
				s, _, e := vm.New(c, []int{a, b}, 20)
				n, code := word.Op(op, a, b)
				want := fmt.Sprintf("4: 0@4 [%d %d] [3 %d]", a, b, n)
				if code != 0 {
					want = fmt.Sprintf("3: 0@3 [%d %d] [3 %d %d]", a, b, a, b)
				}
				if e != api.OK || show(s) != want {
					t.Fatalf("P10.1: %s, %d and not %s for the operation %d", show(s), e, want, op)
				}
				s, events, e := vm.Turn(c, s, 0, 20)
				if code != 0 && (e != api.OK || show(s) != "4: -" || told(events) != "0 fault 2") {
					t.Fatalf("P10.3: %s, %s, %d for the operation %d with %d and %d", show(s), told(events), e, op, a, b)
				}
			}
		}
	}
}

// P10.1: what INot and IFalse do with each word.
func TestTruth(t *testing.T) {
	for n := -8; n <= 7; n++ {
		truth, at, shown := 0, 3, 1
		if n == 0 {
			truth, at, shown = 1, 6, 2
		}
		s, _ := play(t, codeOf(t, 0, "1 1: load 0, not, out, push 0, return"), []int{n})
		if show(s) != fmt.Sprintf("2: 0@2 [%d] [%d]", n, truth) {
			t.Errorf("P10.1: INot of %d: %s", n, show(s))
		}
		s, _ = play(t, codeOf(t, 0, "1 1: load 0, false 5, push 1, out, jump 7, push 2, out, push 0, return"), []int{n})
		if show(s) != fmt.Sprintf("3: 0@%d [%d] [%d]", at, n, shown) {
			t.Errorf("P10.1: IFalse of %d: %s", n, show(s))
		}
	}
}

// P10.1, P10.3: all elements that IElem and IPut can name, and indexes that are out of range.
func TestElements(t *testing.T) {
	for b := 1; b <= 4; b++ {
		for _, a := range []int{0, 1, 7 - b, 8 - b} {
			for i := -8; i <= 7; i++ {
				in := i >= 0 && i < b
				words := []int{5, 4, 3, 2, 1, 0, -1, -2}
				var fill []string
				for at, n := range words {
					fill = append(fill, fmt.Sprintf("push %d, store %d", n, at))
				}
				start := strings.Join(fill, ", ")
				c := codeOf(t, 0, fmt.Sprintf("0 8: %s, push 6, push %d, elem %d %d, out, return", start, i, a, b))
				want := fmt.Sprintf("18: 0@18 %v [6 %d]", words, i)
				if in {
					want = fmt.Sprintf("19: 0@19 %v [6 %d]", words, words[a+i])
				}
				expectElement(t, c, want, in)
				c = codeOf(t, 0, fmt.Sprintf("0 8: %s, push 6, push %d, push -7, put %d %d, out, push 0, return", start, i, a, b))
				want = fmt.Sprintf("19: 0@19 %v [6 %d -7]", words, i)
				if in {
					put := slices.Clone(words)
					put[a+i] = -7
					want = fmt.Sprintf("20: 0@20 %v [6]", put)
				}
				expectElement(t, c, want, in)
			}
		}
	}
}

// expectElement is about the state that New returns for code with IElem or IPut; if the index is out of range, the next turn throws a code.
func expectElement(t *testing.T, c api.Code, want string, in bool) {
	t.Helper()
	s, _, e := vm.New(c, nil, 50)
	if e != api.OK || show(s) != want {
		t.Fatalf("P10.1: %s, %d and not %s for %v", show(s), e, want, c)
	}
	if in {
		return
	}
	s, events, e := vm.Turn(c, s, 0, 50)
	if e != api.OK || len(s.Procs) != 1 || len(s.Procs[0].Frames) > 0 || told(events) != "0 fault 1" {
		t.Fatalf("P10.3: %s, %s, %d for %v", show(s), told(events), e, c)
	}
}
