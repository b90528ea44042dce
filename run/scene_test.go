package run_test

import (
	"fmt"
	"slices"
	"strconv"
	"strings"
	"testing"

	"scoria/api"
	"scoria/code"
	"scoria/compile"
	"scoria/run"
	"scoria/text"
)

// ops has the name of each instruction.
var ops = []string{"push", "load", "store", "elem", "put", "op", "not", "jump", "false", "call", "return", "throw", "try", "done", "send", "recv", "spawn", "out", "drop"}

// body is the instructions of a text such as "push 3, out, push 5, return".
func body(t *testing.T, s string) []api.Instr {
	t.Helper()
	var l []api.Instr
	for _, line := range strings.Split(s, ",") {
		words := strings.Fields(line)
		numbers := []int{0, 0}
		for i, w := range words[1:] {
			n, err := strconv.Atoi(w)
			if err != nil {
				t.Fatal(err)
			}
			numbers[i] = n
		}
		op := slices.Index(ops, words[0])
		if op < 0 {
			t.Fatalf("there is no instruction %q", line)
		}
		l = append(l, api.Instr{Op: op, A: numbers[0], B: numbers[1]})
	}
	return l
}

// codeOf is valid code with channels and functions. The text of a function is as "1 3: load 0, return": its parameters, its words, and its instructions.
func codeOf(t *testing.T, chans int, funs ...string) api.Code {
	t.Helper()
	c := api.Code{Chans: chans}
	for _, s := range funs {
		head, rest, _ := strings.Cut(s, ":")
		var f api.FunCode
		if n, err := fmt.Sscan(head, &f.Params, &f.Words); n != 2 {
			t.Fatalf("%q: %v", s, err)
		}
		f.Body = body(t, rest)
		c.Funs = append(c.Funs, f)
	}
	if !code.Valid(c) {
		t.Fatalf("the code %q is not valid", funs)
	}
	return c
}

// made is the code of the program with a text.
func made(t *testing.T, s string) api.Code {
	t.Helper()
	p, at := text.Parse(s)
	if at >= 0 {
		t.Fatalf("%q has an error at %d", s, at)
	}
	c, e := compile.Prog(p)
	if e != api.OK {
		t.Fatalf("%q has the error %d", s, e)
	}
	return c
}

// told is events in words, as "0 out 3, 1 fault 2".
func told(events []api.Event) string {
	var l []string
	for _, x := range events {
		l = append(l, fmt.Sprintf("%d %s %d", x.Proc, []string{"out", "end", "fault"}[x.Kind], x.N))
	}
	return strings.Join(l, ", ")
}

// show is a run in words, as "[3] [0 0] 0 out 3, 0 end 4; done 7": its arguments, choices, events, end, and steps.
func show(r api.Run) string {
	return fmt.Sprintf("%v %v %s; %s %d", r.Args, r.Sched, told(r.Out.Events), []string{"done", "stuck", "fuel"}[r.Out.End], r.Steps)
}

// identical reports whether two runs are equal in all fields.
func identical(a, b api.Run) bool {
	return slices.Equal(a.Args, b.Args) && slices.Equal(a.Sched, b.Sched) && slices.Equal(a.Out.Events, b.Out.Events) && a.Out.End == b.Out.End && a.Steps == b.Steps
}

// cloned is r without any of its memory.
func cloned(r api.Run) api.Run {
	r.Args = append([]int(nil), r.Args...)
	r.Sched = append([]int(nil), r.Sched...)
	r.Out.Events = append([]api.Event(nil), r.Out.Events...)
	return r
}

// must is a run that has no error.
func must(t *testing.T, c api.Code, args, sched []int, fuel int) api.Run {
	t.Helper()
	r, e := run.Run(c, args, sched, fuel)
	if e != api.OK {
		t.Fatalf("P11.1: the error %d for %v, %v, %v, %d", e, c, args, sched, fuel)
	}
	return r
}

// scene is a run, and what it has to be.
type scene struct {
	name  string
	args  []int
	sched []int
	fuel  int
	want  string
}

// expectScenes runs code as scenes say.
func expectScenes(t *testing.T, c api.Code, scenes []scene) {
	t.Helper()
	for _, x := range scenes {
		r := must(t, c, x.args, x.sched, x.fuel)
		if got := show(r); got != x.want {
			t.Errorf("P11.1: %s: the run is\n%s and not\n%s", x.name, got, x.want)
		}
		expectPlainRun(t, c, x.args, x.sched, x.fuel)
	}
}
