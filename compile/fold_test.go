package compile_test

import (
	"math"
	"math/rand"
	"slices"
	"testing"

	"scoria/api"
	"scoria/compile"
	"scoria/tree"
	"scoria/word"
)

// expectFolds expects that a tree becomes another one.
func expectFolds(t *testing.T, e, want api.Node) {
	t.Helper()
	if got := expectFold(t, e); !same(got, want) {
		t.Errorf("P9.1: %v and not %v for %v", got, want, e)
	}
}

// expectStays expects that a tree stays as it is.
func expectStays(t *testing.T, e api.Node) {
	t.Helper()
	expectFolds(t, e, e)
}

// almost are nodes that are almost constants.
func almost() []api.Node {
	l := []api.Node{field(api.KNum, 1, 1), field(api.KNum, 1, -1), field(api.KTruth, 1, 1), field(api.KTruth, 0, math.MinInt), node(api.KNum, 1, num(1)), node(api.KTruth, 1, truth(1)), node(api.KTruth, 0, v(0), v(1))}
	for _, n := range []int{math.MinInt, api.AnyN, -10, -9, 8, 9, 16, 1 << 8, 1 << 32, 1<<32 + 1, math.MaxInt} {
		l = append(l, num(n))
	}
	for _, n := range []int{math.MinInt, api.AnyN, -8, -2, -1, 2, 3, 7, 1 << 8, 1 << 32, 1<<32 + 1, math.MaxInt} {
		l = append(l, truth(n))
	}
	for kind := -1; kind <= api.Kinds; kind++ {
		if kind != api.KNum && kind != api.KTruth {
			l = append(l, node(kind, 0), node(kind, 1))
		}
	}
	return l
}

// P9.1: constants, and what is almost one, in all places where a constant counts.
func TestFoldConstants(t *testing.T) {
	for _, c := range slices.Concat(constants, almost()) {
		expectStays(t, c)
		kind := c.Kind
		if !slices.ContainsFunc(constants, func(d api.Node) bool { return same(c, d) }) {
			kind = -1
		}
		for _, other := range constants {
			for _, op := range []int{api.Add, api.Same, api.Both, api.Some} {
				operand := api.KNum
				if op >= api.Both {
					operand = api.KTruth
				}
				folds := kind == operand && other.Kind == operand
				for _, e := range []api.Node{bin(op, c, other), bin(op, other, c)} {
					got := expectFold(t, e)
					if (got.Kind != api.KBin) != folds || !folds && !same(got, e) {
						t.Errorf("P9.1: %v becomes %v", e, got)
					}
				}
			}
		}
		yes, no := block(out(1)), block(out(2))
		if kind == api.KTruth {
			expectFolds(t, not(c), truth(1-c.N))
			expectFolds(t, cond(c, yes, no), []api.Node{no, yes}[c.N])
			expectFolds(t, while(c, yes), []api.Node{skip(), while(c, yes)}[c.N])
		} else {
			expectStays(t, not(c))
			expectStays(t, cond(c, yes, no))
			expectStays(t, while(c, yes))
		}
	}
}

// P9.1: each operation of each two constants. The results of word are those of its own chapter.
func TestFoldOperations(t *testing.T) {
	for op := -2; op <= 16; op++ {
		for _, a := range constants {
			for _, b := range constants {
				e := bin(op, a, b)
				kind := api.KNum
				if op == api.Both || op == api.Some {
					kind = api.KTruth
				}
				zero := (op == api.Div || op == api.Mod) && b.N == 0
				if op < 0 || op > 13 || a.Kind != kind || b.Kind != kind || zero {
					expectStays(t, e)
					continue
				}
				n, _ := word.Op(op, a.N, b.N)
				want := num(n)
				if op >= 10 {
					want = truth(n)
				}
				expectFolds(t, e, want)
			}
		}
	}
	for _, op := range []int{math.MinInt, -1 << 32, api.AnyN, -1, api.Bins, api.Bins + 1, 1 << 8, 1 << 32, math.MaxInt} {
		expectStays(t, bin(op, num(1), num(1)))
		expectStays(t, bin(op, truth(1), truth(1)))
	}
	for _, x := range []struct {
		op, a, b int
		want     api.Node
	}{
		{api.Add, 7, 1, num(-8)}, {api.Sub, -8, 1, num(7)}, {api.Mul, -8, -1, num(-8)}, {api.Div, -7, 2, num(-3)}, {api.Mod, -7, 2, num(-1)}, {api.And, -1, 5, num(5)}, {api.Or, 4, 3, num(7)}, {api.Xor, -1, 5, num(-6)}, {api.Shl, 1, 5, num(2)}, {api.Shr, -8, 3, num(-1)}, {api.Less, 3, -4, truth(0)}, {api.Less, -4, 3, truth(1)}, {api.Same, 5, 5, truth(1)}, {api.Same, 5, -5, truth(0)},
		{api.Div, 4, 0, bin(api.Div, num(4), num(0))}, {api.Mod, -1, 0, bin(api.Mod, num(-1), num(0))}, {api.Div, 0, 4, num(0)}, {api.Mod, 0, 4, num(0)},
	} {
		expectFolds(t, bin(x.op, num(x.a), num(x.b)), x.want)
	}
	for n := range 4 {
		expectFolds(t, bin(api.Both, truth(n/2), truth(n%2)), truth(n/3))
		expectFolds(t, bin(api.Some, truth(n/2), truth(n%2)), truth((n+2)/3))
	}
}

// P9.1: a KBin with an M that is not 0, and with other numbers of kids.
func TestFoldBin(t *testing.T) {
	for _, m := range []int{math.MinInt, -1, 1, 2, 1 << 32, math.MaxInt} {
		expectStays(t, field(api.KBin, api.Add, m, num(1), num(1)))
		expectStays(t, field(api.KBin, api.Both, m, truth(1), truth(1)))
	}
	for op := range api.Bins {
		for _, c := range []api.Node{num(1), truth(1)} {
			for _, count := range []int{0, 1, 3, 4} {
				expectStays(t, node(api.KBin, op, slices.Repeat([]api.Node{c}, count)...))
			}
		}
	}
	// Kids that are folded count.
	one, yes := bin(api.Sub, num(3), num(2)), not(truth(0))
	expectFolds(t, bin(api.Mul, bin(api.Add, one, one), bin(api.Sub, one, num(4))), num(-6))
	expectFolds(t, bin(api.Both, bin(api.Less, one, num(2)), bin(api.Some, truth(0), not(not(yes)))), truth(1))
	expectFolds(t, bin(api.Add, v(0), bin(api.Add, one, one)), bin(api.Add, v(0), num(2)))
	expectFolds(t, bin(api.Add, bin(api.Add, one, v(0)), one), bin(api.Add, bin(api.Add, num(1), v(0)), num(1)))
	expectFolds(t, bin(api.Add, one, bin(api.Div, one, bin(api.Sub, one, one))), bin(api.Add, num(1), bin(api.Div, num(1), num(0))))
	expectFolds(t, bin(api.Add, yes, one), bin(api.Add, truth(1), num(1)))
	expectFolds(t, bin(api.Both, one, one), bin(api.Both, num(1), num(1)))
	expectFolds(t, bin(99, one, yes), bin(99, num(1), truth(1)))
	expectFolds(t, bin(api.Add, cond(yes, one, v(0)), cond(truth(0), v(0), one)), num(2))
	expectFolds(t, field(api.KBin, api.Add, 1, one, one), field(api.KBin, api.Add, 1, num(1), num(1)))
	expectFolds(t, node(api.KBin, api.Add, one, one, one), node(api.KBin, api.Add, num(1), num(1), num(1)))
}

// P9.1: a KNot.
func TestFoldNot(t *testing.T) {
	expectFolds(t, not(truth(0)), truth(1))
	expectFolds(t, not(truth(1)), truth(0))
	expectFolds(t, not(not(not(truth(1)))), truth(0))
	expectFolds(t, not(bin(api.Same, num(1), num(1))), truth(0))
	expectFolds(t, not(cond(truth(0), v(0), truth(0))), truth(1))
	for _, n := range []int{math.MinInt, -1, 1, 2, 1 << 32, math.MaxInt} {
		for _, c := range []api.Node{truth(0), truth(1)} {
			expectStays(t, node(api.KNot, n, c))
			expectStays(t, field(api.KNot, 0, n, c))
			expectFolds(t, node(api.KNot, n, not(c)), node(api.KNot, n, truth(1-c.N)))
		}
	}
	for _, e := range []api.Node{node(api.KNot, 0), node(api.KNot, 0, truth(0), truth(0)), node(api.KNot, 0, truth(1), v(0)), not(num(0)), not(num(1)), not(v(0)), not(skip())} {
		expectStays(t, e)
	}
}

// P9.1: a KIf.
func TestFoldIf(t *testing.T) {
	a, b := block(out(1)), block(out(2))
	expectFolds(t, cond(truth(1), a, b), a)
	expectFolds(t, cond(truth(0), a, b), b)
	expectFolds(t, cond(not(truth(0)), a, b), a)
	expectFolds(t, cond(bin(api.Less, num(2), num(1)), a, b), b)
	expectFolds(t, cond(cond(truth(1), truth(0), v(0)), a, b), b)
	expectFolds(t, cond(truth(1), cond(truth(0), a, cond(truth(1), b, a)), a), b)
	expectFolds(t, cond(truth(1), bin(api.Add, num(1), num(1)), v(0)), num(2))
	expectFolds(t, cond(truth(0), num(1), v(0)), v(0))
	expectFolds(t, cond(v(0), cond(truth(0), a, b), cond(truth(1), a, b)), cond(v(0), b, a))
	// N and M do not matter.
	for _, n := range []int{math.MinInt, -1, 1, math.MaxInt} {
		expectFolds(t, node(api.KIf, n, truth(1), a, b), a)
		expectFolds(t, field(api.KIf, 0, n, truth(0), a, b), b)
	}
	for _, c := range []api.Node{truth(0), truth(1), truth(2), num(0), num(1), v(0), block(), bin(api.Div, num(1), num(0))} {
		expectStays(t, cond(c))
		expectStays(t, cond(c, a))
		expectStays(t, cond(c, a, b, a))
		expectStays(t, cond(c, a, b, a, b))
		if c.Kind != api.KTruth || c.N > 1 {
			expectStays(t, cond(c, a, b))
		}
	}
	// The condition that is no constant is folded all the same, as are all kids.
	expectFolds(t, cond(bin(api.Add, num(1), num(1)), block(never()), block(ret(1), out(1))), cond(num(2), block(), block(ret(1))))
	expectFolds(t, cond(not(truth(1)), block(a)), cond(truth(0), a))
}

// P9.1: a KWhile, wherever it stands.
func TestFoldWhile(t *testing.T) {
	b := block(out(1))
	for _, c := range []api.Node{truth(0), not(truth(1)), bin(api.Less, num(1), num(1)), cond(truth(1), truth(0), truth(1)), bin(api.Both, truth(1), not(truth(1)))} {
		w := while(c, b)
		expectFolds(t, w, skip())
		expectFolds(t, while(c, out(1)), skip())
		expectFolds(t, node(api.KWhile, 7, c, b), skip())
		expectFolds(t, field(api.KWhile, 0, -7, c, b), skip())
		// In a block, and at its ends.
		expectFolds(t, block(w), block())
		expectFolds(t, block(w, out(1), w, w, out(2), w), block(out(1), out(2)))
		expectFolds(t, block(w, ret(1), w), block(ret(1)))
		expectFolds(t, block(block(w), block(block(w, out(3)), w)), block(out(3)))
		// In the place of a block.
		expectFolds(t, cond(v(0), w, b), cond(v(0), skip(), b))
		expectFolds(t, cond(v(0), b, w), cond(v(0), b, skip()))
		expectFolds(t, node(api.KTry, 0, w, w), node(api.KTry, 0, skip(), skip()))
		expectFolds(t, while(v(0), w), while(v(0), skip()))
		expectFolds(t, while(truth(0), w), skip())
		// As a kid of something that is no block.
		expectFolds(t, not(w), not(skip()))
		expectFolds(t, bin(api.Add, w, w), bin(api.Add, skip(), skip()))
		expectFolds(t, node(api.KSkip, 3, w), node(api.KSkip, 3, skip()))
		expectFolds(t, node(99, 3, w, out(1)), node(99, 3, skip(), out(1)))
		expectFolds(t, cond(w, b, b), cond(skip(), b, b))
		expectFolds(t, while(w, b), while(skip(), b))
		// With other numbers of kids.
		expectFolds(t, while(c), while(truth(0)))
		expectFolds(t, while(c, b, b), while(truth(0), b, b))
		expectFolds(t, block(while(c), while(c, b, b)), block(while(truth(0)), while(truth(0), b, b)))
		// A KIf becomes a KSkip that has taken the place of a KWhile.
		expectFolds(t, cond(truth(1), w, b), skip())
		expectFolds(t, cond(truth(0), b, w), skip())
		expectFolds(t, block(cond(truth(1), w, b)), block())
		expectFolds(t, block(out(1), cond(truth(0), b, cond(truth(1), w, b)), out(2)), block(out(1), out(2)))
		expectFolds(t, cond(v(0), cond(truth(1), w, b), b), cond(v(0), skip(), b))
	}
	for _, c := range []api.Node{truth(1), truth(2), num(0), v(0), node(api.KTruth, 0, skip()), field(api.KTruth, 0, 1), skip(), block()} {
		expectStays(t, while(c, b))
		expectStays(t, block(while(c, b)))
	}
	expectFolds(t, block(while(not(truth(0)), block(never(), ret(1), out(2)))), block(while(truth(1), block(ret(1)))))
	expectFolds(t, while(), while())
	expectFolds(t, block(while()), block(while()))
}

// P9.1: a KSkip that stood in the tree.
func TestFoldSkip(t *testing.T) {
	expectStays(t, skip())
	expectStays(t, block(skip()))
	expectStays(t, block(skip(), skip(), out(1), skip()))
	expectStays(t, node(api.KSkip, 5))
	expectStays(t, node(api.KSkip, 0, num(1)))
	expectFolds(t, block(skip(), never(), skip()), block(skip(), skip()))
	expectFolds(t, block(block(skip()), block(never()), block(block(skip(), never()))), block(skip(), skip()))
	expectFolds(t, block(cond(truth(1), skip(), block())), block(skip()))
	expectFolds(t, block(cond(truth(1), block(skip()), block())), block(skip()))
	expectFolds(t, block(cond(truth(0), never(), skip())), block(skip()))
	expectFolds(t, cond(v(0), skip(), never()), cond(v(0), skip(), skip()))
	// It stood in the tree also where a loop that is not executed stands beside or below it.
	expectFolds(t, block(node(api.KSkip, 0, never())), block(node(api.KSkip, 0, skip())))
}

// P9.1: blocks in blocks.
func TestFoldBlocks(t *testing.T) {
	a, b, c := out(1), out(2), out(3)
	expectStays(t, block())
	expectStays(t, block(a, b, c))
	expectFolds(t, block(block()), block())
	expectFolds(t, block(block(), block(block(), block(block()))), block())
	expectFolds(t, block(a, block(), b), block(a, b))
	expectFolds(t, block(block(a, b), c), block(a, b, c))
	expectFolds(t, block(a, block(b, c)), block(a, b, c))
	expectFolds(t, block(a, block(b), c), block(a, b, c))
	expectFolds(t, block(block(block(block(a), b)), c), block(a, b, c))
	expectFolds(t, block(a, block(b, block(c, block(a, block(b))))), block(a, b, c, a, b))
	// N and M do not matter, neither of the block nor of the one around it.
	expectFolds(t, field(api.KBlock, 4, 5, field(api.KBlock, 6, 7, a), b), field(api.KBlock, 4, 5, a, b))
	expectStays(t, field(api.KBlock, -4, -5, a))
	// Blocks that are kids of something else stay, and are opened inside.
	expectStays(t, while(v(0), block(a)))
	expectFolds(t, node(api.KTry, 0, block(block(a)), block(b, block())), node(api.KTry, 0, block(a), block(b)))
	expectFolds(t, block(while(v(0), block(block(a), block(b)))), block(while(v(0), block(a, b))))
	expectFolds(t, node(99, 0, block(block(a)), block()), node(99, 0, block(a), block()))
	expectFolds(t, block(node(99, 0, block(block(a)))), block(node(99, 0, block(a))))
	expectFolds(t, not(block(block(a))), not(block(a)))
	// A KIf becomes a block.
	expectFolds(t, block(a, cond(truth(1), block(b, block(c)), block()), a), block(a, b, c, a))
	expectFolds(t, block(cond(truth(0), block(a), block(cond(truth(1), block(b), block())))), block(b))
	expectFolds(t, block(cond(truth(0), block(a), block())), block())
	// More than a program could have.
	many := slices.Repeat([]api.Node{a, b, c}, 50)
	expectFolds(t, block(block(many...), block(many...)), block(slices.Repeat(many, 2)...))
}

// P9.1: what stands after a KReturn or a KThrow.
func TestFoldEnds(t *testing.T) {
	a, b := out(1), out(2)
	for _, end := range []api.Node{ret(3), throw(3), node(api.KReturn, 0), node(api.KThrow, 5, a, a), field(api.KReturn, 0, 9, v(0)), node(api.KThrow, 0, v(1))} {
		expectStays(t, end)
		expectStays(t, block(end))
		expectStays(t, block(a, b, end))
		expectFolds(t, block(end, a), block(end))
		expectFolds(t, block(a, end, b, end, a), block(a, end))
		expectFolds(t, block(end, end, end), block(end))
		expectFolds(t, block(end, skip()), block(end))
		expectFolds(t, block(end, never(), block(a)), block(end))
		expectFolds(t, block(never(), end, a), block(end))
		// In a block that is replaced by its kids.
		expectFolds(t, block(block(end), a), block(end))
		expectFolds(t, block(block(a, end, b), a), block(a, end))
		expectFolds(t, block(a, block(b, block(end, a), b), a), block(a, b, end))
		expectFolds(t, block(block(block(block(end))), block(b)), block(end))
		expectFolds(t, block(block(a), block(end, b), end), block(a, end))
		// In a block that a KIf becomes.
		expectFolds(t, block(cond(truth(1), block(end, a), block(b)), b), block(end))
		expectFolds(t, block(cond(truth(1), block(b), block(end)), a), block(b, a))
		expectFolds(t, block(cond(truth(0), block(b), end), a), block(end))
		// Not below something else.
		expectFolds(t, block(cond(v(0), block(end, b), block(end)), a), block(cond(v(0), block(end), block(end)), a))
		expectFolds(t, block(while(truth(1), block(end, b)), a), block(while(truth(1), block(end)), a))
		expectFolds(t, block(while(truth(0), block(end)), a), block(a))
		expectFolds(t, block(node(api.KTry, 0, block(end, a), block(end, b)), a), block(node(api.KTry, 0, block(end), block(end)), a))
		expectStays(t, block(node(api.KOut, 0, end), a))
		expectStays(t, node(api.KTry, 0, end, a))
		expectStays(t, cond(end, end, a))
		expectStays(t, node(99, 0, end, a))
		expectStays(t, node(api.KFun, 0, end, a))
	}
	expectStays(t, block(a, node(api.KSpawn, 0), node(api.KTry, 0, block(), block()), b))
	expectFolds(t, block(node(api.KReturn, 0, bin(api.Add, num(1), num(2))), out(1)), block(ret(3)))
}

// P9.1: all kinds of nodes above something that is folded, also those that are no part of programs.
func TestFoldKinds(t *testing.T) {
	for kind := -2; kind <= api.Kinds+2; kind++ {
		e := field(kind, 3, 4, bin(api.Add, num(1), num(1)), not(truth(1)), v(0), never())
		want := field(kind, 3, 4, num(2), truth(0), v(0), skip())
		if kind == api.KBlock {
			want.Kids = want.Kids[:3]
		}
		expectFolds(t, e, want)
		expectFolds(t, node(99, 0, e, e), node(99, 0, want, want))
		expectStays(t, field(kind, -1, 17))
		expectStays(t, field(kind, math.MinInt, math.MaxInt))
	}
	expectStays(t, api.Node{})
	e := api.Node{Kind: api.KBlock, Kids: []api.Node{}}
	expectStays(t, e)
	p := node(api.KProg, 1, node(api.KFun, 0, node(api.KArr, 2), block(node(api.KPut, 0, bin(api.Sub, num(1), num(1)), bin(api.Mul, num(2), num(3))), never())))
	expectFolds(t, p, node(api.KProg, 1, node(api.KFun, 0, node(api.KArr, 2), block(node(api.KPut, 0, num(0), num(6))))))
}

// smallParts are trees that stand as kids in the next test.
func smallParts() []api.Node {
	return []api.Node{
		num(-9), num(-8), num(0), num(1), num(8), field(api.KNum, 1, 1), node(api.KNum, 1, num(1)), truth(-1), truth(0), truth(1), truth(2), field(api.KTruth, 0, 1), node(api.KTruth, 1, skip()),
		v(0), skip(), never(), while(truth(0), ret(1)), cond(truth(1), never(), skip()), cond(truth(0), block(), block(ret(1))), block(), block(out(1), block(throw(1))), ret(1), node(api.KThrow, 0), bin(api.Div, num(1), num(0)), not(truth(1)),
	}
}

// P9.1: all kinds above all lists of up to two, and for some kinds three, of some trees.
func TestFoldSmall(t *testing.T) {
	parts := smallParts()
	lists := [][]api.Node{nil}
	for i := 0; len(lists[i]) < 3; i++ {
		for _, x := range parts {
			lists = append(lists, slices.Concat(lists[i], []api.Node{x}))
		}
	}
	for kind := -1; kind <= api.Kinds; kind++ {
		long := slices.Contains([]int{api.KNot, api.KBlock, api.KIf, api.KWhile, api.KTry, api.KReturn}, kind)
		for _, l := range lists {
			if len(l) == 3 && !long {
				break
			}
			expectFold(t, node(kind, 0, l...))
			if len(l) < 3 {
				expectFold(t, field(kind, 0, 1, l...))
			}
			for n := -1; kind == api.KBin && n <= api.Bins; n++ {
				expectFold(t, node(kind, n, l...))
			}
		}
	}
}

// anyFoldable is a tree of any kinds, of which much is folded.
func anyFoldable(r *rand.Rand, depth int) api.Node {
	if depth <= 1 || r.Intn(6) == 0 {
		l := []api.Node{num(r.Intn(20) - 10), truth(r.Intn(2)), truth(r.Intn(2)), truth(r.Intn(4) - 1), v(r.Intn(3)), skip(), field(r.Intn(api.Kinds+2)-1, r.Intn(3), r.Intn(2)), num(r.Intn(16) - 8), ret(r.Intn(3)), block()}
		return l[r.Intn(len(l))]
	}
	any := func() api.Node { return anyFoldable(r, depth-1) }
	several := func() []api.Node {
		var l []api.Node
		for range r.Intn(5) {
			l = append(l, any())
		}
		return l
	}
	switch r.Intn(12) {
	case 0, 1:
		return bin(r.Intn(api.Bins+1), any(), any())
	case 2:
		return bin(r.Intn(api.Less+2), num(r.Intn(16)-8), any())
	case 3:
		return not(any())
	case 4:
		return cond(any(), any(), any())
	case 5:
		return cond(truth(r.Intn(2)), any(), any())
	case 6:
		return while(any(), any())
	case 7:
		return while(truth(r.Intn(2)), any())
	case 8, 9, 10:
		return block(several()...)
	}
	return field(r.Intn(api.Kinds+2)-1, r.Intn(3), r.Intn(2), several()...)
}

// P9.1: random trees.
func TestFoldAny(t *testing.T) {
	r := rand.New(rand.NewSource(91))
	changed := 0
	for range 30000 {
		e := anyFoldable(r, 2+r.Intn(7))
		if !same(expectFold(t, e), e) {
			changed++
		}
	}
	if changed < 10000 {
		t.Errorf("P9.1: only %d trees are folded", changed)
	}
	for i := range 500 {
		p := anyProgram(r, i%2 == 0)
		expectFold(t, p)
		for _, path := range tree.Paths(p) {
			expectFold(t, at(t, p, path))
		}
	}
}

// chain is a tree with levels nodes above each other, each of which above makes from the one below it.
func chain(levels int, below api.Node, above func(below api.Node) api.Node) api.Node {
	for range levels - 1 {
		below = above(below)
	}
	return below
}

// P9.1, P1: deep trees and wide ones.
func TestFoldLarge(t *testing.T) {
	const levels = 1 << 16
	expectSame := func(name string, e, want api.Node) {
		t.Helper()
		if got := compile.Fold(e); !same(got, want) {
			t.Errorf("P9.1: %s", name)
		}
	}
	stay := func(name string, e api.Node) {
		t.Helper()
		expectSame(name, e, e)
	}
	expectSame("KNot", chain(levels, truth(0), not), truth(1))
	stay("KNot of a variable", chain(levels, v(0), not))
	expectSame("sums", chain(levels, num(0), func(n api.Node) api.Node { return bin(api.Add, n, num(1)) }), num(-1))
	stay("sums of a variable", chain(levels, v(0), func(n api.Node) api.Node { return bin(api.Add, num(1), n) }))
	expectSame("blocks", chain(levels, block(), func(n api.Node) api.Node { return block(n) }), block())
	expectSame("KIf", chain(levels, out(1), func(n api.Node) api.Node { return cond(truth(1), n, block()) }), out(1))
	expectSame("KIf in blocks", chain(levels/2, block(out(1)), func(n api.Node) api.Node { return block(cond(truth(0), out(2), n)) }), block(out(1)))
	stay("KWhile", chain(levels/2, block(), func(n api.Node) api.Node { return block(while(v(0), n)) }))
	expectSame("KWhile that are not executed", chain(levels, out(1), func(n api.Node) api.Node { return while(truth(0), n) }), skip())
	// Statements on both sides of the blocks within blocks.
	statements := slices.Repeat([]api.Node{skip()}, 2*levels-2)
	expectSame("statements in blocks", chain(levels, block(), func(n api.Node) api.Node { return block(skip(), n, skip()) }), block(statements...))
	expectSame("a return in blocks", chain(levels, ret(1), func(n api.Node) api.Node { return block(skip(), n, skip()) }), block(append(slices.Clone(statements[:levels-1]), ret(1))...))
	wide := slices.Repeat([]api.Node{bin(api.Add, num(3), num(4)), never(), block(skip(), block())}, levels)
	expectSame("a wide block", block(wide...), block(slices.Repeat([]api.Node{num(7), skip()}, levels)...))
	expectSame("wide", node(api.KOut, 0, wide...), node(api.KOut, 0, slices.Repeat([]api.Node{num(7), skip(), block(skip())}, levels)...))
}
