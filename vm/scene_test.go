package vm_test

import (
	"fmt"
	"slices"
	"strconv"
	"strings"
	"testing"

	"scoria/api"
	"scoria/code"
	"scoria/vm"
)

// ops has the name of each instruction.
var ops = []string{"push", "load", "store", "elem", "put", "op", "not", "jump", "false", "call", "return", "throw", "try", "done", "send", "recv", "spawn", "out", "drop"}

// operations has the name of each operation.
var operations = []string{"add", "sub", "mul", "div", "mod", "and", "or", "xor", "shl", "shr", "less", "same", "both", "some"}

// body is the instructions of a text such as "push 3, op add, return".
func body(t *testing.T, s string) []api.Instr {
	t.Helper()
	var l []api.Instr
	for _, line := range strings.Split(s, ",") {
		words := strings.Fields(line)
		numbers := []int{0, 0}
		for i, w := range words[1:] {
			n, err := strconv.Atoi(w)
			if err != nil {
				n = slices.Index(operations, w)
			}
			numbers[i] = n
		}
		op := slices.Index(ops, words[0])
		if op < 0 {
			t.Fatalf("there is no instruction %q", line)
		}
		l = append(l, api.Instr{Op: op, A: numbers[0], B: numbers[1]})
	}
	return l
}

// codeOf is valid code with channels and functions. The text of a function is as "1 3: load 0, return": its parameters, its words, and its instructions.
func codeOf(t *testing.T, chans int, funs ...string) api.Code {
	t.Helper()
	c := api.Code{Chans: chans}
	for _, s := range funs {
		head, rest, _ := strings.Cut(s, ":")
		var f api.FunCode
		if n, err := fmt.Sscan(head, &f.Params, &f.Words); n != 2 {
			t.Fatalf("%q: %v", s, err)
		}
		f.Body = body(t, rest)
		c.Funs = append(c.Funs, f)
	}
	if !code.Valid(c) {
		t.Fatalf("the code %q is not valid", funs)
	}
	return c
}

// show is a state in words, as "5: 0@3 [1 2] [4] {6 0 1} > 1@0 [] [] | - # [7] []": Steps; the processes, each with its frames, the innermost one last, or - without any; behind # the words of the channels. A frame has its function, At, Words, Stack, and At, Word and Height of its handlers.
func show(s api.State) string {
	var procs []string
	for _, p := range s.Procs {
		var frames []string
		for _, f := range p.Frames {
			text := fmt.Sprintf("%d@%d %v %v", f.Fun, f.At, f.Words, f.Stack)
			for _, x := range f.Tries {
				text += " " + fmt.Sprint(x)
			}
			frames = append(frames, text)
		}
		if len(frames) == 0 {
			frames = []string{"-"}
		}
		procs = append(procs, strings.Join(frames, " > "))
	}
	out := fmt.Sprintf("%d: %s", s.Steps, strings.Join(procs, " | "))
	if len(s.Chans) > 0 {
		out += " #"
	}
	for _, words := range s.Chans {
		out += " " + fmt.Sprint(words)
	}
	return out
}

// told is events in words, as "0 out 3, 1 fault 2".
func told(events []api.Event) string {
	var l []string
	for _, x := range events {
		l = append(l, fmt.Sprintf("%d %s %d", x.Proc, []string{"out", "end", "fault"}[x.Kind], x.N))
	}
	return strings.Join(l, ", ")
}

// play lets processes do turns, each of which has to be possible, with all the fuel there is.
func play(t *testing.T, c api.Code, args []int, turns ...int) (api.State, []api.Event) {
	t.Helper()
	s, events, e := vm.New(c, args, api.MaxFuel)
	if e != api.OK || len(events) > 0 {
		t.Fatalf("P10.1: the events %v and the error %d", events, e)
	}
	expectPlainNew(t, c, args, api.MaxFuel)
	for i, p := range turns {
		expectPlainTurn(t, c, s, p, api.MaxFuel)
		next, more, e := vm.Turn(c, s, p, api.MaxFuel)
		if e != api.OK {
			t.Fatalf("P10.3: the turn %d of %v: the error %d", i, turns, e)
		}
		s, events = next, append(events, more...)
	}
	return s, events
}

// scene is code, turns, and what comes of them.
type scene struct {
	name   string
	chans  int
	funs   []string
	args   []int
	turns  []int
	state  string
	events string
}

// expect plays a scene.
func (x scene) expect(t *testing.T) {
	t.Helper()
	s, events := play(t, codeOf(t, x.chans, x.funs...), x.args, x.turns...)
	if got := show(s); got != x.state {
		t.Errorf("%s: the state is\n%s and not\n%s", x.name, got, x.state)
	}
	if got := told(events); got != x.events {
		t.Errorf("%s: the events are %s and not %s", x.name, got, x.events)
	}
}

// one is code with a single function, without parameters.
func one(s string) []string { return []string{"0 0: " + s} }

// turns is as many turns of the first process.
func turns(n int) []int { return make([]int, n) }
