package types_test

import (
	"math"
	"math/rand"
	"reflect"
	"slices"
	"testing"

	"scoria/api"
	"scoria/tree"
	"scoria/types"
)

// expectOf expects a type and an error of an expression.
func expectOf(t *testing.T, p api.Node, f int, x api.Node, want api.Node, e api.Errno) {
	t.Helper()
	got, wrong := types.Of(p, f, x)
	if wrong != e || got.Kind != want.Kind || got.N != 0 || got.M != 0 || len(got.Kids) > 0 {
		t.Errorf("P7.2: %v %d instead of %v %d for %v in the function %d of %v", got, wrong, want, e, x, f, p)
	}
}

// P7.2: an expression of each kind, with and without errors.
func TestOf(t *testing.T) {
	p := scene(t, "skip")
	zero := api.Node{}
	v := func(n int) api.Node { return node(api.KVar, n) }
	for _, x := range []struct {
		f    int
		x    api.Node
		want api.Node
		e    api.Errno
	}{
		{1, num, word, api.OK}, {1, node(api.KNum, -8), word, api.OK}, {1, yes, truth, api.OK}, {1, node(api.KTruth, 0), truth, api.OK},
		// Variables are those of the function.
		{1, v(0), word, api.OK}, {1, v(1), truth, api.OK}, {1, v(4), truth, api.OK}, {1, v(2), zero, api.ErrType}, {1, v(3), zero, api.ErrType}, {1, v(5), zero, api.ErrRange},
		{0, v(0), word, api.OK}, {0, v(1), word, api.OK}, {0, v(2), truth, api.OK}, {0, v(3), zero, api.ErrRange}, {2, v(0), truth, api.OK}, {2, v(2), word, api.OK},
		{1, node(api.KElem, 2, num), word, api.OK}, {1, node(api.KElem, 2, yes), zero, api.ErrType}, {1, node(api.KElem, 1, num), zero, api.ErrType}, {1, node(api.KElem, 5, yes), zero, api.ErrRange}, {1, node(api.KElem, 2, v(5)), zero, api.ErrRange}, {1, node(api.KElem, 0, v(5)), zero, api.ErrType},
		{1, field(api.KField, 3, 0), word, api.OK}, {1, field(api.KField, 3, 1), truth, api.OK}, {1, field(api.KField, 3, 2), zero, api.ErrRange}, {1, field(api.KField, 2, 2), zero, api.ErrType}, {1, field(api.KField, 0, 0), zero, api.ErrType}, {1, field(api.KField, 5, 0), zero, api.ErrRange},
		{1, node(api.KNot, 0, v(1)), truth, api.OK}, {1, node(api.KNot, 0, v(0)), zero, api.ErrType}, {1, node(api.KNot, 0, v(2)), zero, api.ErrType}, {1, node(api.KNot, 0, v(5)), zero, api.ErrRange},
		{1, node(api.KCall, 0, num), word, api.OK}, {1, node(api.KCall, 1, v(0), v(1)), word, api.OK}, {1, node(api.KCall, 2, v(1), v(4), v(0)), word, api.OK}, {1, node(api.KCall, 0), zero, api.ErrType}, {1, node(api.KCall, 0, num, num), zero, api.ErrType}, {1, node(api.KCall, 2, num, yes, num), zero, api.ErrType}, {1, node(api.KCall, 3), zero, api.ErrRange}, {1, node(api.KCall, 5, v(2)), zero, api.ErrRange},
		{1, node(api.KRecv, 0), word, api.OK}, {1, node(api.KRecv, 1), word, api.OK}, {1, node(api.KRecv, 2), zero, api.ErrRange},
		// The first wrong node counts: that which stands above, or to the left.
		{1, node(api.KNot, 0, node(api.KBin, api.Add, v(5), yes)), zero, api.ErrType}, {1, node(api.KBin, api.Add, v(5), v(2)), zero, api.ErrRange}, {1, node(api.KBin, api.Add, v(2), v(5)), zero, api.ErrType}, {1, node(api.KBin, api.Same, v(5), yes), zero, api.ErrType},
		{1, node(api.KCall, 0, node(api.KCall, 0, node(api.KCall, 0, node(api.KRecv, 2)))), zero, api.ErrRange}, {1, node(api.KNot, 0, node(api.KNot, 0, node(api.KNot, 0, node(api.KCall, 3)))), zero, api.ErrType},
	} {
		expectOf(t, p, x.f, x.x, x.want, x.e)
	}
	for op := range api.Bins {
		operand, other := num, yes
		if op >= api.Both {
			operand, other = yes, num
		}
		want := word
		if op >= api.Less {
			want = truth
		}
		expectOf(t, p, 1, node(api.KBin, op, operand, operand), want, api.OK)
		expectOf(t, p, 1, node(api.KBin, op, operand, other), zero, api.ErrType)
		expectOf(t, p, 1, node(api.KBin, op, other, operand), zero, api.ErrType)
		expectOf(t, p, 1, node(api.KBin, op, operand, v(5)), zero, api.ErrRange)
	}
}

// P7.2: functions that do not exist, whatever the expression.
func TestOfFunctions(t *testing.T) {
	p := scene(t, "skip")
	for _, f := range []int{math.MinInt, -1 << 32, -6, -3, -2, -1, 3, 4, 5, 6, 1 << 8, 1<<32 + 1, math.MaxInt} {
		for _, x := range someExpressions() {
			expectOf(t, p, f, x, api.Node{}, api.ErrRange)
		}
	}
	one := inFunction(nil, node(api.KSkip, 0))
	expectOf(t, one, 0, num, word, api.OK)
	expectOf(t, one, 1, num, api.Node{}, api.ErrRange)
	six := node(api.KProg, 0, slices.Repeat(one.Kids, 6)...)
	expectOf(t, six, 5, yes, truth, api.OK)
	expectOf(t, six, 6, yes, api.Node{}, api.ErrRange)
}

// P7.2: each expression below each other one, in each function.
func TestOfNested(t *testing.T) {
	p := scene(t, "skip")
	var l []api.Node
	for _, a := range someExpressions() {
		l = append(l, a, node(api.KNot, 0, a), node(api.KElem, 2, a), node(api.KCall, 0, a), node(api.KCall, 1, num, a))
		for op := range api.Bins {
			for _, b := range someExpressions()[:20] {
				l = append(l, node(api.KBin, op, a, b), node(api.KBin, op, b, a))
			}
		}
	}
	for _, x := range l {
		for f := range p.Kids {
			want, e := plainOf(p, f, x)
			expectOf(t, p, f, x, want, e)
		}
	}
}

// P7.2: all expressions of many programs, in all of their functions; what is wrong elsewhere in a program does not matter.
func TestOfAnyProgram(t *testing.T) {
	r := rand.New(rand.NewSource(72))
	results := map[api.Errno]int{}
	for i := range 300 {
		p := anyProgram(r, i%3 > 0)
		for _, path := range tree.Paths(p) {
			x := at(t, p, path)
			if !slices.Contains(expressions, x.Kind) {
				continue
			}
			for f := range p.Kids {
				want, e := plainOf(p, f, x)
				expectOf(t, p, f, x, want, e)
				results[e]++
			}
		}
	}
	for _, e := range []api.Errno{api.OK, api.ErrRange, api.ErrType} {
		if results[e] < 1000 {
			t.Errorf("P7.2: only %d of the expressions have the error %d", results[e], e)
		}
	}
}

// sized is an expression with a given number of nodes, which is as flat as sums can be, with a word at its end. The function 0 has one parameter.
func sized(size int, last api.Node) api.Node {
	switch size {
	case 1:
		return last
	case 2:
		return node(api.KCall, 0, last)
	}
	half := (size - 1) / 2
	return node(api.KBin, api.Add, sized(half, num), sized(size-1-half, last))
}

// P7.2: expressions that are as deep, or as large, as those that can stand in a valid program: four nodes have to be around them.
func TestOfLimits(t *testing.T) {
	p := scene(t, "skip")
	for depth := 1; depth <= 12; depth++ {
		expectOf(t, p, 1, chain(depth, yes), truth, api.OK)
		expectOf(t, p, 1, chain(depth, node(api.KVar, 2)), api.Node{}, api.ErrType)
		expectOf(t, p, 1, chain(depth, node(api.KVar, 5)), api.Node{}, api.ErrRange)
	}
	for size := 1; size <= 252; size++ {
		expectOf(t, p, 1, sized(size, num), word, api.OK)
		expectOf(t, p, 1, sized(size, node(api.KVar, 2)), api.Node{}, api.ErrType)
		expectOf(t, p, 1, sized(size, node(api.KVar, 5)), api.Node{}, api.ErrRange)
	}
	// It does not matter how large the program is.
	large := filled(256, node(api.KOut, 0, num))
	expectOf(t, large, 1, chain(12, yes), truth, api.OK)
	expectOf(t, large, 1, chain(12, num), api.Node{}, api.ErrType)
}

// Where the chapter says nothing, Of returns ErrForm, as its comment says.
func TestOfForm(t *testing.T) {
	p := scene(t, "skip")
	for f := -1; f <= 3; f++ {
		for _, x := range []api.Node{empty, word, node(api.KOut, 0, num), p, node(api.KAny, 0), node(api.KNum, 8), node(api.KVar, -1), node(api.KBin, api.Add, num), node(api.KNot, 0, empty), chain(13, yes), sized(253, num)} {
			expectOf(t, p, f, x, api.Node{}, api.ErrForm)
		}
		for _, q := range []api.Node{{}, num, node(api.KProg, 4, p.Kids...), node(api.KProg, 0, node(api.KFun, 1, empty)), filled(257, node(api.KSkip, 0))} {
			expectOf(t, q, f, num, api.Node{}, api.ErrForm)
		}
	}
}

// oddNodes are nodes of all kinds, with numbers and kids of which most are none for them.
func oddNodes() []api.Node {
	var l []api.Node
	for kind := -1; kind <= api.Kinds; kind++ {
		for _, n := range []int{math.MinInt, -1, 0, 5, 14, math.MaxInt} {
			for _, m := range []int{math.MinInt, -1, 0, 3, math.MaxInt} {
				l = append(l, field(kind, n, m), field(kind, n, m, num), field(kind, n, m, num, yes), field(kind, n, m, num, num, num, num), field(kind, n, m, empty))
			}
		}
	}
	return append(l, chain(13, yes), chain(1000, yes), sized(253, num), sized(2000, num), node(api.KNot, 0, slices.Repeat([]api.Node{num}, 300)...))
}

// expectSteady expects that Of returns, the same again for equal arguments, and a zero node beside an error.
func expectSteady(t *testing.T, p api.Node, f int, x api.Node) {
	t.Helper()
	got, e := types.Of(p, f, x)
	again, same := types.Of(copyOf(p), f, copyOf(x))
	if e != same || !reflect.DeepEqual(got, again) {
		t.Errorf("Rules: equal calls have other results")
	}
	if e != api.OK && !reflect.DeepEqual(got, api.Node{}) {
		t.Errorf("Rules: %v beside the error %d", got, e)
	}
}

// P1: Of returns for all arguments, also where nothing is specified.
func TestOfAnything(t *testing.T) {
	p := scene(t, "out v0")
	programs := []api.Node{
		{}, num, node(api.KProg, 0), node(api.KProg, 9, p.Kids...), node(api.KProg, -9, p.Kids...), node(api.KProg, 0, api.Node{}), node(api.KProg, 0, node(api.KFun, 3)),
		node(api.KProg, 0, node(api.KFun, 3, empty)), node(api.KProg, 0, node(api.KFun, -3, word, empty)), node(api.KProg, 1, node(api.KFun, 1, node(api.KRec, 0), empty)),
		node(api.KProg, 1, node(api.KFun, 0, node(api.KAny, 0))), node(api.KProg, 0, slices.Repeat(p.Kids, 5)...),
	}
	deep := chain(1<<16, yes)
	expectSteady(t, p, 0, deep)
	expectSteady(t, deep, 0, num)
	functions := []int{math.MinInt, -1, 0, 1, 2, 3, math.MaxInt}
	for _, f := range functions {
		for _, x := range slices.Concat(oddNodes(), programs) {
			expectSteady(t, p, f, x)
		}
		for _, q := range programs {
			for _, x := range slices.Concat(someExpressions(), programs[:3]) {
				expectSteady(t, q, f, x)
			}
		}
	}
}
