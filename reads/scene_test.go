package reads_test

import (
	"fmt"
	"slices"
	"strconv"
	"strings"
	"testing"

	"scoria/api"
	"scoria/code"
	"scoria/compile"
	"scoria/reads"
	"scoria/run"
	"scoria/text"
)

// ops has the name of each instruction.
var ops = []string{"push", "load", "store", "elem", "put", "op", "not", "jump", "false", "call", "return", "throw", "try", "done", "send", "recv", "spawn", "out", "drop"}

// body is the instructions of a text such as "push 3, out, push 5, return".
func body(t *testing.T, s string) []api.Instr {
	t.Helper()
	var l []api.Instr
	for _, line := range strings.Split(s, ",") {
		words := strings.Fields(line)
		numbers := []int{0, 0}
		for i, w := range words[1:] {
			n, err := strconv.Atoi(w)
			if err != nil {
				t.Fatal(err)
			}
			numbers[i] = n
		}
		op := slices.Index(ops, words[0])
		if op < 0 {
			t.Fatalf("there is no instruction %q", line)
		}
		l = append(l, api.Instr{Op: op, A: numbers[0], B: numbers[1]})
	}
	return l
}

// codeOf is valid code with channels and functions. The text of a function is as "1 3: load 0, return": its parameters, its words, and its instructions.
func codeOf(t *testing.T, chans int, funs ...string) api.Code {
	t.Helper()
	c := api.Code{Chans: chans}
	for _, s := range funs {
		head, rest, _ := strings.Cut(s, ":")
		var f api.FunCode
		if n, err := fmt.Sscan(head, &f.Params, &f.Words); n != 2 {
			t.Fatalf("%q: %v", s, err)
		}
		f.Body = body(t, rest)
		c.Funs = append(c.Funs, f)
	}
	if !code.Valid(c) {
		t.Fatalf("the code %q is not valid", funs)
	}
	return c
}

// made is the code of the program with a text.
func made(t *testing.T, s string) api.Code {
	t.Helper()
	p, at := text.Parse(s)
	if at >= 0 {
		t.Fatalf("%q has an error at %d", s, at)
	}
	c, e := compile.Prog(p)
	if e != api.OK {
		t.Fatalf("%q has the error %d", s, e)
	}
	return c
}

// choice is the code of the chapter's example.
func choice(t *testing.T) api.Code {
	t.Helper()
	return made(t, "program 0 fun 1 (int) { if (v0 < 0) { out 1 } else { out 2 } return v0 }")
}

// told is reads in words: the indices of each function, as "0 1 2 | | 0 3".
func told(r reads.Reads) string {
	var l []string
	for _, indices := range r.Funs {
		l = append(l, strings.Trim(fmt.Sprint(indices), "[]"))
	}
	return strings.Join(l, " | ")
}

// from has the numbers from one to another one, in words.
func from(first, last int) string {
	var l []string
	for i := first; i <= last; i++ {
		l = append(l, strconv.Itoa(i))
	}
	return strings.Join(l, " ")
}

// ran is the run of code, which has no error.
func ran(t *testing.T, c api.Code, args, sched []int, fuel int) api.Run {
	t.Helper()
	r, e := run.Run(c, args, sched, fuel)
	if e != api.OK {
		t.Fatalf("P11.1: the error %d for %v, %v, %v and the fuel %d", e, c, args, sched, fuel)
	}
	return r
}

// of is what a run asks for.
func of(t *testing.T, c api.Code, r api.Run, fuel int) reads.Reads {
	t.Helper()
	l, e := reads.Of(c, r, fuel)
	if e != api.OK {
		t.Fatalf("P13.1: the error %d for %v, the run %v and the fuel %d", e, c, r, fuel)
	}
	return l
}

// scene is a run of code in words, as "done 5" or "fuel 5" with its Steps, and what it asks for.
type scene struct {
	name  string
	code  api.Code
	args  []int
	sched []int
	fuel  int
	run   string
	want  string
}

// expect finds out what a run asks for, as a scene says.
func (x scene) expect(t *testing.T) {
	t.Helper()
	r := ran(t, x.code, x.args, x.sched, x.fuel)
	if got := fmt.Sprintf("%s %d", []string{"done", "stuck", "fuel"}[r.Out.End], r.Steps); got != x.run {
		t.Fatalf("P11.1: %s: the run is %s, and not %s", x.name, got, x.run)
	}
	got, e := reads.Of(x.code, r, x.fuel)
	if e != api.OK || told(got) != x.want {
		t.Errorf("P13.1: %s: the error %d, and %s instead of %s", x.name, e, told(got), x.want)
	}
}

// none reports whether reads are zero.
func none(r reads.Reads) bool { return len(r.Funs) == 0 }

// same reports whether two reads are equal; functions without indices at the end do not matter.
func same(a, b reads.Reads) bool {
	for i := range max(len(a.Funs), len(b.Funs)) {
		var l, m []int
		if i < len(a.Funs) {
			l = a.Funs[i]
		}
		if i < len(b.Funs) {
			m = b.Funs[i]
		}
		if !slices.Equal(l, m) {
			return false
		}
	}
	return true
}

// equal reports whether two reads are equal, and have as many functions.
func equal(a, b reads.Reads) bool {
	return slices.EqualFunc(a.Funs, b.Funs, slices.Equal[[]int])
}
