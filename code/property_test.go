package code_test

import (
	"math/rand"
	"slices"
	"testing"

	"scoria/api"
	"scoria/code"
)

// someValid is valid code, in which each instruction occurs.
func someValid(t *testing.T, r *rand.Rand, count int) []api.Code {
	t.Helper()
	var l []api.Code
	reached := map[int]bool{}
	for len(l) < count {
		c := anyCode(r)
		for d := c; ; d = changed(r, d) {
			if !code.Valid(d) {
				break
			}
			l = append(l, d)
		}
		for i, f := range c.Funs {
			for at, h := range code.Heights(c, i) {
				reached[f.Body[at].Op] = reached[f.Body[at].Op] || h != -1
			}
		}
	}
	for op := range api.Instrs {
		if !reached[op] {
			t.Errorf("no instruction with the Op %d gets a shape", op)
		}
	}
	return l
}

// P8.5, P8.6: heights from step to step, and the last instruction.
func TestSteps(t *testing.T) {
	steps := map[int]int{}
	last, idle := map[int]int{}, map[int]int{}
	for _, c := range someValid(t, rand.New(rand.NewSource(85)), 1500) {
		for i, f := range c.Funs {
			h := code.Heights(c, i)
			if len(h) != len(f.Body) || h[0] != 0 {
				t.Fatalf("P8.5: the heights of %v are %v", f.Body, h)
			}
			for at, x := range f.Body {
				if h[at] < -1 || h[at] > 32 {
					t.Fatalf("P8.5: the heights of %v are %v", f.Body, h)
				}
				end := at == len(f.Body)-1
				if h[at] == -1 {
					if end {
						idle[x.Op]++
					}
					continue
				}
				if ends(x) {
					if end {
						last[x.Op]++
					}
					continue
				}
				if end {
					t.Fatalf("P8.6: at the end of %v stands %v", f.Body, x)
				}
				pops, pushes := stack(x)
				if h[at+1] != h[at]+pushes-pops {
					t.Fatalf("P8.5: %d leads from %d to %d in %v", x, h[at], h[at+1], f.Body)
				}
				steps[x.Op]++
			}
		}
	}
	for op := range api.Instrs {
		if x := in(op, 0, 0); ends(x) != (steps[op] == 0) || ends(x) != (last[op] > 0) {
			t.Errorf("P8.5, P8.6: %d steps with %d, which is %d times the last one with a shape", steps[op], op, last[op])
		}
	}
	if len(idle) < 4 {
		t.Errorf("P8.6: the last instructions without a shape are %v", idle)
	}
}

// P8.7: bytes of valid code, and of others.
func TestBytes(t *testing.T) {
	r := rand.New(rand.NewSource(88))
	for _, c := range someValid(t, r, 200) {
		b := code.Encode(c)
		more := make([]byte, r.Intn(40))
		r.Read(more)
		got, used, e := code.Decode(slices.Concat(b, more))
		if e != api.OK || used != len(b) || !code.Same(c, got) || !code.Valid(got) {
			t.Fatalf("P8.7: Decode returns %v, %d, %d for the encoding of %v", got, used, e, c)
		}
		for i := range got.Funs {
			if !slices.Equal(code.Heights(got, i), code.Heights(c, i)) {
				t.Fatalf("P8.7: other heights in %v", got)
			}
		}
		for range 20 {
			expectRefused(t, "a proper beginning", b[:r.Intn(len(b))])
		}
	}
}

// names reports whether an instruction of code names the function f.
func names(c api.Code, f int) bool {
	return slices.ContainsFunc(c.Funs, func(g api.FunCode) bool {
		return slices.ContainsFunc(g.Body, func(x api.Instr) bool {
			return (x.Op == api.ICall || x.Op == api.ISpawn) && x.A == f
		})
	})
}

// P8.8: a function more.
func TestFunctions(t *testing.T) {
	r := rand.New(rand.NewSource(89))
	tried := map[bool]int{}
	named := 0
	for range 2500 {
		c := anyCode(r)
		if r.Intn(2) == 0 {
			c = changed(r, c)
		}
		if r.Intn(8) == 0 {
			c.Chans = r.Intn(9) - 3
		}
		if r.Intn(12) == 0 {
			c.Funs = c.Funs[:1]
		}
		want := code.Valid(c)
		params := r.Intn(4)
		d := copyOf(c)
		d.Funs = append(d.Funs, api.FunCode{Params: params, Words: params + r.Intn(25-params), Body: body(in(api.IPush, r.Intn(16)-8, 0), result)})
		if len(d.Funs) > 6 {
			if code.Valid(d) {
				t.Fatalf("P8.8: valid with 7 functions: %v", d)
			}
			continue
		}
		if names(c, len(c.Funs)) {
			named++
			continue
		}
		tried[want]++
		if code.Valid(d) != want {
			t.Fatalf("P8.8: Valid is not %v with a function more: %v", want, d)
		}
		for i := range c.Funs {
			if !slices.Equal(code.Heights(c, i), code.Heights(d, i)) {
				t.Fatalf("P8.8: other heights with a function more: %v", d)
			}
		}
	}
	if tried[true] < 300 || tried[false] < 300 || named < 5 {
		t.Errorf("P8.8: %v, and %d name the function", tried, named)
	}
	// An instruction that names it.
	c := scene(push, in(api.ICall, 1, 1), result)
	c.Funs = c.Funs[:1]
	d := copyOf(c)
	d.Funs = append(d.Funs, api.FunCode{Params: 1, Words: 1, Body: body(push, result)})
	if code.Valid(c) || !code.Valid(d) {
		t.Errorf("P8.8: the function that is called is there or not")
	}
}

// The examples of the chapter.
func TestExamples(t *testing.T) {
	try := func(name string, want []int, words int, l ...api.Instr) {
		t.Helper()
		c := api.Code{Funs: []api.FunCode{{Words: words, Body: l}}}
		if got := code.Heights(c, 0); !slices.Equal(got, want) || code.Valid(c) != (len(want) > 0) {
			t.Errorf("P8.1, P8.2: %s: the heights are %v", name, got)
		}
	}
	try("a push and a return", []int{0, 1}, 0, in(api.IPush, 3, 0), result)
	try("a handler", []int{0, 0, 1, -1, 0, 1}, 1, in(api.ITry, 4, 0), in(api.IPush, 1, 0), throw, done, in(api.IPush, 0, 0), result)
	try("a handler, and no word for the code", nil, 0, in(api.ITry, 4, 0), in(api.IPush, 1, 0), throw, done, in(api.IPush, 0, 0), result)
	try("a return alone", nil, 0, result)
	// DOC.md: the program that returns v0 + 1, and what ends it.
	c := api.Code{Funs: []api.FunCode{{Params: 1, Words: 1, Body: body(in(api.ILoad, 0, 0), in(api.IPush, 1, 0), in(api.IOp, api.Add, 0), result, in(api.IPush, 0, 0), result)}}}
	if got := code.Heights(c, 0); !slices.Equal(got, []int{0, 1, 2, 1, -1, -1}) || !code.Valid(c) {
		t.Errorf("P8.2: the heights are %v", got)
	}
}
