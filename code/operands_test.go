package code_test

import (
	"math"
	"slices"
	"testing"

	"scoria/api"
	"scoria/code"
)

// span is the operands A from first to last beside a B.
type span struct{ op, first, last, b int }

// spans has the operands that are right in the scene, where the body has eight instructions; by hand.
var spans = []span{
	{api.IPush, -8, 7, 0},
	{api.ILoad, 0, 5, 0},
	{api.IStore, 0, 5, 0},
	{api.IElem, 0, 5, 1},
	{api.IElem, 0, 4, 2},
	{api.IElem, 0, 3, 3},
	{api.IElem, 0, 2, 4},
	{api.IPut, 0, 5, 1},
	{api.IPut, 0, 4, 2},
	{api.IPut, 0, 3, 3},
	{api.IPut, 0, 2, 4},
	{api.IOp, 0, 13, 0},
	{api.INot, 0, 0, 0},
	{api.IJump, 0, 7, 0},
	{api.IFalse, 0, 7, 0},
	{api.ICall, 0, 0, 2},
	{api.ICall, 1, 1, 0},
	{api.ICall, 2, 2, 1},
	{api.ICall, 3, 3, 2},
	{api.ICall, 4, 4, 3},
	{api.ISpawn, 0, 0, 2},
	{api.ISpawn, 1, 1, 0},
	{api.ISpawn, 2, 2, 1},
	{api.ISpawn, 3, 3, 2},
	{api.ISpawn, 4, 4, 3},
	{api.IReturn, 0, 0, 0},
	{api.IThrow, 0, 0, 0},
	{api.ITry, 0, 7, 0},
	{api.ITry, 0, 7, 1},
	{api.ITry, 0, 7, 4},
	{api.ITry, 0, 7, 5},
	{api.IDone, 0, 0, 0},
	{api.ISend, 0, 1, 0},
	{api.IRecv, 0, 1, 0},
	{api.IOut, 0, 0, 0},
	{api.IDrop, 0, 0, 0},
}

// idle is a body of eight instructions; the last one gets no shape.
func idle(last api.Instr) []api.Instr {
	return body(push, drop, push, push, drop, result, throw, last)
}

// someNumbers are those around all bounds, and those where sums wrap around.
func someNumbers() []int {
	l := []int{math.MinInt, math.MinInt + 1, math.MinInt + 4, -1 << 32, math.MaxInt - 5, math.MaxInt - 4, math.MaxInt - 3, math.MaxInt - 1, math.MaxInt, 1 << 32, 1<<32 + 1, 256}
	for n := -18; n <= 18; n++ {
		l = append(l, n)
	}
	return l
}

// P8.1, P8.2: the operands of an instruction that gets no shape; the first and the last right ones, and all around them.
func TestOperands(t *testing.T) {
	heights := []int{0, 1, 0, 1, 2, 1, -1, -1}
	for op := -2; op < api.Instrs+2; op++ {
		for _, b := range someNumbers() {
			for _, a := range someNumbers() {
				want := slices.ContainsFunc(spans, func(s span) bool {
					if op == api.ITry && s.op == op {
						return a >= s.first && a <= s.last && b >= 0 && b <= 5
					}
					return s.op == op && s.b == b && a >= s.first && a <= s.last
				})
				c := scene(idle(in(op, a, b))...)
				got := code.Heights(c, 0)
				if code.Valid(c) != want || want != slices.Equal(got, heights) || !want && len(got) > 0 {
					t.Fatalf("P8.1: %v, as %d, has the heights %v", want, c.Funs[0].Body[7], got)
				}
			}
		}
	}
}

// P8.1: the operands of an instruction that gets a shape.
func TestOperandsOfReached(t *testing.T) {
	reached := func(x api.Instr) api.Code {
		return scene(push, push, push, x, push, result, throw, drop)
	}
	for _, s := range spans {
		switch s.op {
		case api.IJump, api.IFalse, api.ITry, api.IDone:
			continue
		}
		for a := s.first; a <= s.last; a++ {
			if !code.Valid(reached(in(s.op, a, s.b))) {
				t.Errorf("P8.1: not valid with %d", in(s.op, a, s.b))
			}
		}
		for _, x := range []api.Instr{in(s.op, s.first-1, s.b), in(s.op, s.last+1, s.b), in(s.op, s.first, -1), in(s.op, s.last, 5)} {
			if c := reached(x); code.Valid(c) || len(code.Heights(c, 0)) > 0 {
				t.Errorf("P8.1: valid with %d", x)
			}
		}
	}
}

// P8.1: Ops that there are not, where they get a shape.
func TestOps(t *testing.T) {
	for _, op := range []int{math.MinInt, -256, -1, api.Instrs, api.Instrs + 1, 256, 256 + api.IPush, 1 << 32, math.MaxInt} {
		expectBody(t, "an Op that there is not", nil, in(op, 0, 0), push, result)
		expectBody(t, "an Op that there is not, behind the end", nil, push, result, in(op, 0, 0))
	}
}

// P8.1: operands that depend on the function, on the code, and on another function.
func TestOperandsElsewhere(t *testing.T) {
	try := func(want bool, name string, c api.Code) {
		t.Helper()
		if code.Valid(c) != want || want != (len(code.Heights(c, 0)) > 0) {
			t.Errorf("P8.1: %s: Valid is not %v", name, want)
		}
	}
	fun := func(params, words int, l ...api.Instr) api.FunCode {
		return api.FunCode{Params: params, Words: words, Body: l}
	}
	for words := range 25 {
		for a := -1; a < 27; a++ {
			for _, op := range []int{api.ILoad, api.IStore} {
				try(a >= 0 && a < words, "a word of the frame", api.Code{Funs: []api.FunCode{fun(0, words, push, result, in(op, a, 0))}})
			}
			try(a >= 0 && a < words, "the word of a handler", api.Code{Funs: []api.FunCode{fun(0, words, push, result, in(api.ITry, 0, a))}})
			for b := 1; b <= 4; b++ {
				for _, op := range []int{api.IElem, api.IPut} {
					try(a >= 0 && a+b <= words, "an array", api.Code{Funs: []api.FunCode{fun(0, words, push, result, in(op, a, b))}})
				}
			}
		}
	}
	for chans := range 4 {
		for a := -1; a < 5; a++ {
			try(a >= 0 && a < chans, "a channel", api.Code{Chans: chans, Funs: []api.FunCode{fun(0, 0, push, result, in(api.IRecv, a, 0))}})
			try(a >= 0 && a < chans, "a channel", api.Code{Chans: chans, Funs: []api.FunCode{fun(0, 0, push, result, in(api.ISend, a, 0))}})
		}
	}
	for params := range 4 {
		for b := -1; b < 5; b++ {
			for _, op := range []int{api.ICall, api.ISpawn} {
				try(b == params, "a function", api.Code{Funs: []api.FunCode{fun(0, 0, push, result, in(op, 1, b)), fun(params, 3, push, result)}})
				try(b == params, "the function itself", api.Code{Funs: []api.FunCode{fun(params, 3, push, result, in(op, 0, b))}})
			}
		}
	}
	for n := 2; n < 20; n++ {
		for a := -1; a < 22; a++ {
			l := slices.Concat(body(push, result), times(n-2, in(api.IJump, a, 0)))
			try(n == 2 || a >= 0 && a < n, "an instruction", api.Code{Funs: []api.FunCode{fun(0, 0, l...)}})
		}
	}
}
