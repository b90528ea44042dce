package explore_test

import (
	"fmt"
	"slices"
	"strconv"
	"strings"
	"testing"

	"scoria/api"
	"scoria/code"
	"scoria/compile"
	"scoria/explore"
	"scoria/text"
)

// ops has the name of each instruction.
var ops = []string{"push", "load", "store", "elem", "put", "op", "not", "jump", "false", "call", "return", "throw", "try", "done", "send", "recv", "spawn", "out", "drop"}

// body is the instructions of a text such as "push 3, out, push 5, return".
func body(t *testing.T, s string) []api.Instr {
	t.Helper()
	var l []api.Instr
	for _, line := range strings.Split(s, ",") {
		words := strings.Fields(line)
		numbers := []int{0, 0}
		for i, w := range words[1:] {
			n, err := strconv.Atoi(w)
			if err != nil {
				t.Fatal(err)
			}
			numbers[i] = n
		}
		op := slices.Index(ops, words[0])
		if op < 0 {
			t.Fatalf("there is no instruction %q", line)
		}
		l = append(l, api.Instr{Op: op, A: numbers[0], B: numbers[1]})
	}
	return l
}

// codeOf is valid code with channels and functions. The text of a function is as "1 3: load 0, return": its parameters, its words, and its instructions.
func codeOf(t *testing.T, chans int, funs ...string) api.Code {
	t.Helper()
	c := api.Code{Chans: chans}
	for _, s := range funs {
		head, rest, _ := strings.Cut(s, ":")
		var f api.FunCode
		if n, err := fmt.Sscan(head, &f.Params, &f.Words); n != 2 {
			t.Fatalf("%q: %v", s, err)
		}
		f.Body = body(t, rest)
		c.Funs = append(c.Funs, f)
	}
	if !code.Valid(c) {
		t.Fatalf("the code %q is not valid", funs)
	}
	return c
}

// made is the code of the program with a text.
func made(t *testing.T, s string) api.Code {
	t.Helper()
	p, at := text.Parse(s)
	if at >= 0 {
		t.Fatalf("%q has an error at %d", s, at)
	}
	c, e := compile.Prog(p)
	if e != api.OK {
		t.Fatalf("%q has the error %d", s, e)
	}
	return c
}

// both is code of two processes: function 0 starts function 1, and shows 1; function 1 shows 2.
func both(t *testing.T) api.Code {
	t.Helper()
	return codeOf(t, 0, "0 0: spawn 1 0, push 1, out, push 0, return", "0 0: push 2, out, push 0, return")
}

// told is events in words, as "0 out 3, 1 fault 2".
func told(events []api.Event) string {
	var l []string
	for _, x := range events {
		l = append(l, fmt.Sprintf("%d %s %d", x.Proc, []string{"out", "end", "fault"}[x.Kind], x.N))
	}
	return strings.Join(l, ", ")
}

// edges is the edges of a graph in words, as "0 0>1", "1 1>3 1 out 2": state, process, state, events.
func edges(g explore.Graph) []string {
	var l []string
	for _, x := range g.Edges {
		s := fmt.Sprintf("%d %d>%d", x.From, x.Proc, x.To)
		if len(x.Events) > 0 {
			s += " " + told(x.Events)
		}
		l = append(l, s)
	}
	return l
}

// states is the states of a graph in words: for each process the frames, as "0@3[1 2|5]": function, At, Words, Stack; then the channels, as "<1 2>".
func states(g explore.Graph) []string {
	var l []string
	for _, s := range g.States {
		var parts []string
		for _, p := range s.Procs {
			var frames []string
			for _, f := range p.Frames {
				frames = append(frames, fmt.Sprintf("%d@%d%s|%s", f.Fun, f.At, strings.TrimSuffix(fmt.Sprint(f.Words), "]"), fmt.Sprint(f.Stack)[1:]))
			}
			parts = append(parts, strings.Join(append(frames, "."), ""))
		}
		for _, words := range s.Chans {
			parts = append(parts, "<"+strings.Trim(fmt.Sprint(words), "[]")+">")
		}
		l = append(l, strings.Join(parts, " "))
	}
	return l
}

// outcomesTold is outcomes in words, as "0 out 1, 0 end 0; 0".
func outcomesTold(l []api.Outcome) []string {
	var s []string
	for _, o := range l {
		s = append(s, fmt.Sprintf("%s; %d", told(o.Events), o.End))
	}
	return s
}

// explored is the graph of code, which has no error.
func explored(t *testing.T, c api.Code, args []int, most int) explore.Graph {
	t.Helper()
	g, e := explore.All(c, args, most)
	if e != api.OK {
		t.Fatalf("P12.1: the error %d for %v, %v and most %d", e, c, args, most)
	}
	return g
}

// empty reports whether a graph is zero.
func empty(g explore.Graph) bool {
	return len(g.States)+len(g.Edges)+len(g.Ends)+len(g.First) == 0
}

// scene is code, and its graph in words.
type scene struct {
	name   string
	code   api.Code
	args   []int
	states []string
	edges  []string
	ends   []int
	outs   []string // its outcomes; nil, if it is endless
}

// expectScene explores code as a scene says.
func expectScene(t *testing.T, x scene) {
	t.Helper()
	g := explored(t, x.code, x.args, len(x.states))
	if !slices.Equal(states(g), x.states) {
		t.Errorf("P12.1: %s: the states are\n%s\nand not\n%s", x.name, strings.Join(states(g), "\n"), strings.Join(x.states, "\n"))
	}
	if !slices.Equal(edges(g), x.edges) {
		t.Errorf("P12.1: %s: the edges are\n%s\nand not\n%s", x.name, strings.Join(edges(g), "\n"), strings.Join(x.edges, "\n"))
	}
	if !slices.Equal(g.Ends, x.ends) {
		t.Errorf("P12.1: %s: the ends are %v and not %v", x.name, g.Ends, x.ends)
	}
	if len(g.First) > 0 {
		t.Errorf("P12.1: %s: the first events are %v", x.name, g.First)
	}
	if e := explore.Check(x.code, x.args, g); e != api.OK {
		t.Errorf("P12.2: %s: the error %d", x.name, e)
	}
	l, e := explore.Outcomes(g, max(1, len(x.outs)))
	if x.outs == nil {
		if e != api.ErrLimit || len(l) > 0 {
			t.Errorf("P12.3: %s: the error %d, and the outcomes %q", x.name, e, outcomesTold(l))
		}
		return
	}
	if e != api.OK || !slices.Equal(outcomesTold(l), x.outs) {
		t.Errorf("P12.3: %s: the error %d, and the outcomes\n%s\nand not\n%s", x.name, e, strings.Join(outcomesTold(l), "\n"), strings.Join(x.outs, "\n"))
	}
}
