package code_test

import (
	"math"
	"math/rand"
	"slices"
	"testing"

	"scoria/api"
	"scoria/code"
)

// expectValid is about code of which all functions are right, or none.
func expectValid(t *testing.T, name string, want bool, c api.Code) {
	t.Helper()
	if code.Valid(c) != want {
		t.Errorf("P8.1: %s: Valid is not %v", name, want)
	}
	for f := range c.Funs {
		if (len(code.Heights(c, f)) > 0) != want {
			t.Errorf("P8.2: %s: the heights of the function %d are %v", name, f, code.Heights(c, f))
		}
	}
}

// P8.1: the numbers of channels and of functions.
func TestCounts(t *testing.T) {
	small := api.FunCode{Body: body(push, result)}
	for _, n := range []int{math.MinInt, -1, 0, 1, 2, 3, 4, 5, 256, 1 << 32, math.MaxInt} {
		expectValid(t, "channels", n >= 0 && n <= 3, api.Code{Chans: n, Funs: []api.FunCode{small}})
	}
	for _, n := range []int{0, 1, 2, 3, 4, 5, 6, 7, 8, 300} {
		expectValid(t, "functions", n >= 1 && n <= 6, api.Code{Funs: slices.Repeat([]api.FunCode{small}, n)})
	}
	expectValid(t, "no functions", false, api.Code{Funs: []api.FunCode{}})
	expectValid(t, "no functions", false, api.Code{Chans: 3})
}

// P8.1: Params and Words.
func TestParamsAndWords(t *testing.T) {
	l := []int{math.MinInt, -4, -3, -2, -1, 0, 1, 2, 3, 4, 5, 23, 24, 25, 26, 256, 260, 1 << 32, 1<<32 + 3, math.MaxInt}
	for _, params := range l {
		for _, words := range l {
			want := params >= 0 && params <= 3 && words >= params && words <= 24
			expectValid(t, "Params and Words", want, api.Code{Funs: []api.FunCode{{Params: params, Words: words, Body: body(push, result)}}})
		}
	}
}

// P8.1: the number of instructions.
func TestInstructions(t *testing.T) {
	expectBody(t, "no instructions", nil)
	expectBody(t, "no instructions, but a list", nil, []api.Instr{}...)
	expectBody(t, "one instruction", []int{0}, in(api.IJump, 0, 0))
	for _, n := range []int{2, 3, 100, 2046, 2047, 2048, 2049, 2050, 4096, 4098} {
		l := slices.Concat(body(push, result), times(n-2, push))
		c := scene(l...)
		if want := n <= 2048; code.Valid(c) != want || (len(code.Heights(c, 0)) == n) != want {
			t.Errorf("P8.1: %d instructions", n)
		}
		// All of them get a shape here.
		l = slices.Repeat(body(push, drop), (n-1)/2)
		if n%2 == 0 {
			l = append(l, push, result)
		} else {
			l = append(l, in(api.IJump, 0, 0))
		}
		c = scene(l...)
		if want := n <= 2048; code.Valid(c) != want || (len(code.Heights(c, 0)) == n) != want {
			t.Errorf("P8.1: %d instructions, each with a shape", n)
		}
		expectPlain(t, c)
	}
}

// P8.2: instructions that lead behind the Body, and those that lead there without a shape.
func TestOutOfTheBody(t *testing.T) {
	for _, s := range spans {
		x := in(s.op, s.first, s.b)
		switch s.op {
		case api.IJump, api.ITry:
			x.A = 7
		case api.IFalse:
			x.A = 6
		}
		l := append(times(7, push), x)
		if s.op == api.IDone {
			l = body(in(api.ITry, 6, 0), in(api.IJump, 7, 0), push, result, push, result, in(api.IJump, 6, 0), x)
		}
		try := func(want bool, l []api.Instr) {
			c := scene(l...)
			if code.Valid(c) != want || want != (len(code.Heights(c, 0)) == len(l)) {
				t.Errorf("P8.2: %d as the instruction 7 of %d: Valid is not %v", x, len(l), want)
			}
			expectPlain(t, c)
		}
		try(ends(x), l)
		try(true, append(slices.Clone(l), in(api.IJump, 8, 0)))
	}
	expectBody(t, "IJump at the end", []int{0, 1, 0}, push, drop, in(api.IJump, 0, 0))
	expectBody(t, "IFalse at the end", nil, push, in(api.IFalse, 0, 0))
	expectBody(t, "ITry at the end", nil, in(api.IJump, 1, 0), in(api.ITry, 0, 0))
	expectBody(t, "IJump behind the Body", nil, push, in(api.IJump, 2, 0))
	expectBody(t, "IJump far behind the Body", nil, push, in(api.IJump, math.MaxInt, 0))
	expectBody(t, "IJump before the Body", nil, push, in(api.IJump, -1, 0))
	expectBody(t, "IFalse behind the Body", nil, push, in(api.IFalse, 4, 0), push, result)
	expectBody(t, "IFalse before the Body", nil, push, in(api.IFalse, -1, 0), push, result)
	expectBody(t, "ITry behind the Body", nil, in(api.ITry, 3, 0), push, result)
	expectBody(t, "ITry before the Body", nil, in(api.ITry, -1, 0), push, result)
	expectBody(t, "the end is not reached", []int{0, 1, -1}, push, result, push)
}

// P8.2: instructions that get two shapes.
func TestTwoShapes(t *testing.T) {
	try := func(a int) api.Instr { return in(api.ITry, a, 0) }
	unless := func(a int) api.Instr { return in(api.IFalse, a, 0) }
	jump := func(a int) api.Instr { return in(api.IJump, a, 0) }
	expectBody(t, "the same shape twice", []int{0, 1, 0, 0, 1}, push, unless(3), jump(3), push, result)
	expectBody(t, "two heights", nil, push, unless(3), push, push, result)
	expectBody(t, "two heights, the less one later", nil, push, push, unless(4), drop, result)
	expectBody(t, "both ways to the next one", []int{0, 1, 0, 1}, push, unless(2), push, result)
	expectBody(t, "a loop", []int{0}, jump(0))
	expectBody(t, "a loop, with a way out", []int{0, 1, 0, 1, 0, 0, 1}, push, unless(5), push, drop, jump(0), push, result)
	expectBody(t, "a loop that pushes", nil, push, jump(0))
	expectBody(t, "a loop that pops", nil, push, drop, drop, jump(1))
	expectBody(t, "a loop back by a condition", []int{0, 1, 0, 1}, push, unless(0), push, result)
	expectBody(t, "a loop back by a condition, and a word left", nil, push, push, unless(0), result)
	expectBody(t, "a loop around itself by a handler", []int{0, 0, 1}, try(0), push, result)
	expectBody(t, "a loop that adds handlers", nil, jump(1), try(2), jump(0))
	expectBody(t, "a loop that adds handlers, and itself", nil, try(0), jump(0))
	expectBody(t, "a loop that adds a handler and removes it", []int{0, 0, 0}, try(0), done, jump(0))
	expectBody(t, "a loop that removes handlers", nil, try(3), done, jump(1), push, result)
	expectBody(t, "a handler on one way", nil, push, unless(3), try(3), push, result)
	expectBody(t, "a handler on one way, and another place", nil, push, unless(3), try(5), push, result, push, result)
	expectBody(t, "handlers at different heights", nil, push, unless(6), try(10), push, push, jump(9), push, try(11), push, result, push, result, drop, push, result)
	expectBody(t, "the same height, with the handlers at the same heights", []int{0, 1, 0, 0, 1, 2, 0, 0, 1, 2, 0, 1}, push, unless(6), try(10), push, push, jump(9), try(10), push, push, result, push, result)
	expectBody(t, "one handler, and two at the same height", nil,
		push, unless(5), try(9), push, jump(8), try(9), try(11), push, result, push, result, jump(11))
	expectBody(t, "one handler twice", []int{0, 1, 0, 0, 1, 0, 0, 0, 1, 0, 1},
		push, unless(5), try(9), push, jump(8), try(9), jump(7), push, result, push, result)
	expectBody(t, "two handlers at 0 and 1, and both at 0", nil,
		push, unless(6), try(12), push, try(11), jump(9), try(12), try(13), push, push, result, jump(11), jump(12), jump(13))
	expectBody(t, "two handlers at 0 and 1, twice", []int{0, 1, 0, 0, 1, 1, 0, 0, 1, 1, 2, 1, 0},
		push, unless(6), try(12), push, try(11), jump(9), try(12), push, try(11), push, result, jump(11), jump(12))
	expectBody(t, "two handlers on both ways", []int{0, 1, 0, 0, 0, 0, 0, 0, 1, 0, 1, 0},
		push, unless(5), try(9), try(11), jump(7), try(9), try(11), push, result, push, result, jump(11))
}

// P8.1, P8.2: instructions that get no shape.
func TestNoShape(t *testing.T) {
	expectBody(t, "what could not be executed", []int{0, 1, -1, -1, -1}, push, result, drop, done, in(api.IOp, 0, 0))
	expectBody(t, "a way that meets another one", []int{0, 1, -1, -1}, push, result, push, in(api.IJump, 0, 0))
	expectBody(t, "a loop", []int{0, 1, -1, -1}, push, result, push, in(api.IJump, 2, 0))
	expectBody(t, "behind a jump", []int{0, -1, 0, 1}, in(api.IJump, 2, 0), in(api.IPut, 0, 1), push, result)
	expectBody(t, "behind a jump, with operands that are not right", nil, in(api.IJump, 2, 0), in(api.IPut, 0, 0), push, result)
	expectBody(t, "behind a throw", []int{0, 1, -1}, push, throw, done)
	expectBody(t, "behind a throw, with operands that are not right", nil, push, throw, in(api.IDone, 0, 1))
	expectBody(t, "behind the end, with operands that are not right", nil, push, result, in(api.ICall, 1, 1))
	expectBody(t, "too many words", append([]int{0, 1}, slices.Repeat([]int{-1}, 40)...), append(body(push, result), times(40, push)...)...)
}

// P8.2: the heights 32 and 33.
func TestHighest(t *testing.T) {
	up := func(n int) []int {
		var l []int
		for i := range n {
			l = append(l, i)
		}
		return l
	}
	try := func(name string, want []int, pushes int, l ...api.Instr) {
		t.Helper()
		expectBody(t, name, want, append(times(pushes, push), l...)...)
		expectPlain(t, scene(append(times(pushes, push), l...)...))
	}
	try("32 words", up(33), 32, result)
	try("33 words", nil, 33, result)
	try("34 words", nil, 34, result)
	for _, x := range []api.Instr{push, in(api.ILoad, 0, 0), in(api.IRecv, 0, 0), in(api.ICall, 1, 0)} {
		try("one more than 31", append(up(32), 32), 31, x, result)
		try("one more than 32", nil, 32, x, result)
		try("one more than 32, that nothing pops", nil, 32, x, in(api.IJump, 33, 0))
	}
	for _, x := range []api.Instr{in(api.IElem, 0, 1), in(api.INot, 0, 0), in(api.ICall, 2, 1)} {
		try("in the place of another one", append(up(33), 32), 32, x, result)
	}
	try("one for two", append(up(33), 31), 32, in(api.IOp, 0, 0), result)
	try("one for three", append(up(33), 30), 32, in(api.ICall, 4, 3), result)
	try("a handler at 32", append(up(33), 32, 32), 32, in(api.ITry, 34, 0), done, result)
	try("a handler at 32, and one more", nil, 32, in(api.ITry, 34, 0), push, result)
	try("a throw from 32", up(33), 32, throw)
	try("down and up again", append(up(33), 31, 32), 32, drop, push, result)
}

// above is a body in which an instruction stands over a number of words more than some of handlers, and after it a loop; and where the instruction is. Each handler has a loop of its own, since each begins with another shape.
func above(handlers []api.Instr, over int, x api.Instr) ([]api.Instr, int) {
	at := len(handlers) + over
	if x.Op == api.IFalse {
		x.A = at + 1
	}
	l := slices.Concat(handlers, times(over, push), body(x, in(api.IJump, at+1, 0)))
	for i := range l {
		if l[i].Op == api.ITry {
			l[i].A = len(l)
			l = append(l, in(api.IJump, len(l), 0))
		}
	}
	return l, at
}

// P8.2: pops at the height 0, at that of the innermost handler, and above.
func TestPops(t *testing.T) {
	try := in(api.ITry, 0, 0)
	for _, s := range spans {
		x := in(s.op, s.first, s.b)
		pops, pushes := stack(x)
		if s.op == api.IJump || s.op == api.ITry || s.op == api.IDone {
			continue
		}
		for base := range 4 {
			one := append(times(base, push), try)
			for i, handlers := range [][]api.Instr{nil, one, slices.Concat(body(try, push), one), slices.Concat(body(try), one, body(try))} {
				for over := range 5 {
					want := over >= pops
					l, at := above(handlers, over, x)
					c := scene(l...)
					h := code.Heights(c, 0)
					if code.Valid(c) != want || want != (len(h) > 0) {
						t.Errorf("P8.2: %d at %d over the height of a handler at %d (%d): Valid is not %v", x, over, base, i, want)
					}
					if want && !ends(x) && h[at+1] != h[at]-pops+pushes {
						t.Errorf("P8.5: %d leads from %d to %d", x, h[at], h[at+1])
					}
					expectPlain(t, c)
				}
			}
		}
	}
}

// ends reports whether an instruction does not lead to the next one.
func ends(x api.Instr) bool {
	return x.Op == api.IJump || x.Op == api.IReturn || x.Op == api.IThrow
}

// P8.2: handlers.
func TestHandlers(t *testing.T) {
	try := func(a int) api.Instr { return in(api.ITry, a, 0) }
	jump := func(a int) api.Instr { return in(api.IJump, a, 0) }
	expectBody(t, "IDone without a handler", nil, done, push, result)
	expectBody(t, "IDone without a handler, higher", nil, push, done, result)
	expectBody(t, "a handler", []int{0, 0, 1, -1, 0, 1}, try(4), push, throw, done, push, result)
	expectBody(t, "IDone twice", nil, try(3), done, done, push, result)
	expectBody(t, "IDone at a greater height", []int{0, 0, 1, 1, 0, 1}, try(4), push, done, result, push, result)
	expectBody(t, "a handler, and a pop after it", []int{0, 1, 1, 1, 0, 1}, push, try(3), done, drop, push, result)
	expectBody(t, "a handler, and a pop before its end", nil, push, try(3), drop, done, push, result)
	expectBody(t, "handlers within handlers", []int{0, 0, 0, 0, 0, 0, 0, 0, 1},
		try(7), try(5), done, done, jump(7), done, jump(7), push, result)
	expectBody(t, "handlers within handlers, at different heights", []int{0, 0, 1, 1, 2, 3, 3, 3, 2, 2, 1, 0, 1},
		try(11), push, try(10), push, push, try(7), done, drop, done, drop, jump(10), push, result)
	expectBody(t, "handlers within handlers, at different heights, all ended", []int{0, 0, 1, 1, 2, 2, 2, 1, 1, 0, 0, 0, 1},
		try(11), push, try(8), push, try(6), done, drop, done, drop, done, jump(11), push, result)
	expectBody(t, "the inner handler has ended, the outer one has not", nil,
		try(8), push, try(7), push, done, drop, drop, drop, push, result)
	expectBody(t, "a pop down to the outer handler", []int{0, 0, 1, 1, 2, 2, 1, 1, 0, 0, 1},
		try(9), push, try(7), push, done, drop, jump(7), drop, jump(8), push, result)
	expectBody(t, "the place of a handler is reached in another way", []int{0, 0, 0, 0, 1}, try(3), done, jump(3), push, result)
	expectBody(t, "the place of a handler is reached with the handler", nil, try(2), jump(2), push, result)
	expectBody(t, "the place of a handler is reached at another height", nil, try(3), push, done, push, result)
	expectBody(t, "the place of a handler is the next one", nil, try(1), push, result)
	expectBody(t, "two handlers at one place", []int{0, 0, 0, 0, 0, 0, 1}, try(5), done, try(5), done, jump(5), push, result)
	expectBody(t, "two handlers at one place, within each other", nil, try(4), try(4), done, done, push, result)
	expectBody(t, "two handlers at one place, at different heights", nil, try(5), done, push, try(5), done, push, result)
	expectBody(t, "a handler before", []int{0, 1, 0, 0, 1}, push, drop, try(0), push, result)
	expectBody(t, "a result within a handler, from its height", nil, push, try(2), result)
	expectBody(t, "a throw within a handler, from its height", nil, push, try(2), throw)
	expectBody(t, "a result within a handler", []int{0, 1, 1, 2, 1}, push, try(4), push, result, jump(4))
	expectBody(t, "a throw within a handler", []int{0, 1, 1, 2, 1}, push, try(4), push, throw, jump(4))
}

// nested is a body of handlers within each other, all at the height 0, and of some ends. Each handler has a loop of its own behind all of it.
func nested(handlers, ends int) []api.Instr {
	l := slices.Concat(times(handlers, in(api.ITry, 0, 0)), times(ends, done))
	l = append(l, in(api.IJump, len(l), 0))
	for i := range handlers {
		l[i].A = len(l)
		l = append(l, in(api.IJump, len(l), 0))
	}
	return l
}

// P8.2: as many handlers as there can be.
func TestManyHandlers(t *testing.T) {
	for _, n := range []int{1, 2, 31, 127, 128, 255, 256, 257, 500, 1000, 1023} {
		for _, ends := range []int{0, 1, n / 2, n, n + 1} {
			l := nested(n, ends)
			var want []int
			if len(l) > 2048 {
				continue
			}
			if ends <= n {
				want = make([]int, len(l))
			}
			expectBody(t, "many handlers", want, l...)
		}
	}
	// A loop that comes back with more handlers than it began with.
	for _, n := range []int{1, 2, 128, 255, 256, 512, 1000, 1023} {
		l := nested(n, 0)
		l[n].A = 0
		expectBody(t, "a loop that adds many handlers", nil, l...)
	}
}

// P8.2: handlers at every height.
func TestHandlersAtEveryHeight(t *testing.T) {
	for top := range 33 {
		var l []api.Instr
		var want []int
		for h := range top + 1 {
			if h > 0 {
				l, want = append(l, push), append(want, h-1)
			}
			l, want = append(l, in(api.ITry, h, 0)), append(want, h)
		}
		for h := top; h >= 0; h-- {
			l, want = append(l, done), append(want, h)
			if h > 0 {
				l, want = append(l, drop), append(want, h)
			}
		}
		l, want = append(l, in(api.IJump, 0, 0)), append(want, 0)
		size := len(l)
		for i := range l {
			if l[i].Op == api.ITry {
				h := l[i].A
				l[i].A = size + h
			}
		}
		for h := range top + 1 {
			l, want = append(l, in(api.IJump, size+h, 0)), append(want, h)
		}
		expectBody(t, "handlers at every height", want, l...)
		expectPlain(t, scene(l...))
		// A pop too much, ahead of an end.
		for i, x := range l {
			if x == done {
				m := slices.Clone(l)
				m[i] = drop
				expectBody(t, "a pop in the place of an end", nil, m...)
			}
		}
	}
}

// P8.2: the asked function, and the others.
func TestOtherFunctions(t *testing.T) {
	good := api.FunCode{Params: 1, Words: 2, Body: body(push, result)}
	bad := []api.FunCode{{}, {Words: 25, Body: good.Body}, {Params: 2, Words: 1, Body: good.Body}, {Params: 1, Words: 1, Body: body(result)}, {Params: 1, Words: 1, Body: body(in(api.IPush, 8, 0), result)}, {Params: 1, Words: 1, Body: body(push, in(api.ICall, 9, 0), result)}, {Params: -1, Body: good.Body}, {Params: 4, Words: 4, Body: good.Body}}
	for _, b := range bad {
		for i := range 6 {
			for all := range 2 {
				c := api.Code{Chans: 3}
				for j := range 6 {
					f := good
					if (j == i) == (all == 0) {
						f = b
					}
					c.Funs = append(c.Funs, f)
				}
				if code.Valid(c) {
					t.Errorf("P8.1: valid with %v", b)
				}
				for j := -2; j < 9; j++ {
					want := j >= 0 && j < 6 && (j == i) != (all == 0)
					if got := code.Heights(c, j); want && !slices.Equal(got, []int{0, 1}) || !want && len(got) > 0 {
						t.Errorf("P8.2: the function %d beside %v has the heights %v", j, b, got)
					}
				}
			}
		}
	}
	c := scene(push, result)
	for _, f := range []int{math.MinInt, -1 << 32, -5, -1, 5, 6, 256, 1 << 32, math.MaxInt} {
		if got := code.Heights(c, f); len(got) > 0 {
			t.Errorf("P8.2: the function %d has the heights %v", f, got)
		}
	}
	c.Chans = 4
	if got := code.Heights(c, 0); len(got) > 0 {
		t.Errorf("P8.2: with 4 channels the function 0 has the heights %v", got)
	}
	c.Chans = -1
	if got := code.Heights(c, 1); len(got) > 0 {
		t.Errorf("P8.2: with -1 channels the function 1 has the heights %v", got)
	}
}

// P8.2: a call of a function that is wrong itself. B has to be what this function says, and from 0 to 3.
func TestCallsOfWrongFunctions(t *testing.T) {
	for params := -2; params < 7; params++ {
		for b := -2; b < 7; b++ {
			for _, op := range []int{api.ICall, api.ISpawn} {
				c := scene(append(times(8, push), in(op, 1, b), push, result)...)
				c.Funs[1] = api.FunCode{Params: params}
				if got, want := len(code.Heights(c, 0)) > 0, b == params && b >= 0 && b <= 3; got != want {
					t.Errorf("P8.2: heights of a call with B %d of a function with Params %d: %v", b, params, got)
				}
				if code.Valid(c) {
					t.Errorf("P8.1: valid with a function without instructions")
				}
			}
		}
	}
}

// P8.1, P8.2: all short bodies of some instructions.
func TestShortBodies(t *testing.T) {
	var all []api.Instr
	for _, l := range [][]api.Instr{body(push, drop, done, result, throw, in(api.IOp, 0, 0), in(api.INot, 0, 0), in(api.ICall, 2, 1), in(api.ISpawn, 3, 2), in(api.IPut, 0, 1), in(api.IRecv, 0, 0), in(api.IPush, 8, 0))} {
		all = append(all, l...)
	}
	for at := range 5 {
		all = append(all, in(api.IJump, at, 0), in(api.IFalse, at, 0), in(api.ITry, at, 0))
	}
	valid := 0
	var l []api.Instr
	var try func(n int)
	try = func(n int) {
		if n == 0 {
			if expectPlain(t, scene(l...)) {
				valid++
			}
			return
		}
		for _, x := range all {
			l = append(l, x)
			try(n - 1)
			l = l[:len(l)-1]
		}
	}
	for n := range 4 {
		try(n)
	}
	if valid < 100 {
		t.Errorf("only %d of the bodies are valid", valid)
	}
}

// P8.1, P8.2: longer bodies of jumps, handlers, pushes and pops, at random.
func TestLongerBodies(t *testing.T) {
	r := rand.New(rand.NewSource(82))
	valid, tried := 0, 0
	for range 60000 {
		n := 4 + r.Intn(9)
		var l []api.Instr
		for i := range n {
			// A handler that is near is more often where the shape can be the same.
			x := []api.Instr{push, drop, done, result, throw, in(api.IJump, r.Intn(n), 0), in(api.IFalse, r.Intn(n), 0), in(api.ITry, r.Intn(n), 0), in(api.ITry, min(n-1, i+1+r.Intn(4)), 0), push, push}[r.Intn(11)]
			l = append(l, x)
		}
		want, ok := plainShapes(l)
		c := api.Code{Funs: []api.FunCode{{Words: 1, Body: l}}}
		if got := code.Heights(c, 0); ok && !slices.Equal(got, want) || !ok && len(got) > 0 || code.Valid(c) != ok {
			t.Fatalf("P8.2: the heights of %d are %v and not %v", l, got, want)
		}
		tried++
		if ok {
			valid++
		}
	}
	if valid < 300 {
		t.Errorf("only %d of %d bodies are valid", valid, tried)
	}
}

// P8.1, P8.2: code of all instructions, and what small changes make of it.
func TestChangedCode(t *testing.T) {
	r := rand.New(rand.NewSource(81))
	valid, not := 0, 0
	for range 300 {
		c := anyCode(r)
		expectPlain(t, c)
		for range 12 {
			d := changed(r, c)
			if r.Intn(3) == 0 {
				d = changed(r, d)
			}
			if expectPlain(t, d) {
				valid++
			} else {
				not++
			}
		}
	}
	if valid < 500 || not < 500 {
		t.Errorf("%d of the changed codes are valid, %d are not", valid, not)
	}
}
