package ops_test

import (
	"math/rand"
	"slices"
	"testing"

	"scoria/api"
	"scoria/ops"
)

var (
	zero = api.Node{}
	a    = node(api.KCall, 3, num(2))
	b    = not(v(4))
	call = func(l ...api.Node) api.Node { return node(api.KCall, 1, l...) }
)

// matchCases are patterns and trees; the trees for which numbers stand, if the pattern matches.
var matchCases = []struct {
	what       string
	pattern, n api.Node
	ok         bool
	want       []api.Node
}{
	{"a KAny alone", hole(0), a, true, []api.Node{a}},
	{"a KAny alone", hole(2), a, true, []api.Node{zero, zero, a}},
	{"a KAny alone", hole(7), b, true, []api.Node{zero, zero, zero, zero, zero, zero, zero, b}},
	{"a KAny alone, for a KAny", hole(1), hole(0), true, []api.Node{zero, hole(0)}},
	{"a KAny alone, for one of another number", hole(0), hole(9), true, []api.Node{hole(9)}},
	{"a KAny alone, for the zero node", hole(0), zero, true, []api.Node{zero}},
	{"a number out of range", hole(8), a, false, nil},
	{"a number out of range", hole(-1), a, false, nil},
	{"a number out of range, for itself", hole(8), hole(8), false, nil},
	{"a number out of range, for itself", hole(-1), hole(-1), false, nil},
	{"AnyN as the number of a KAny", hole(api.AnyN), a, false, nil},
	{"AnyN as the number of a KAny, for itself", hole(api.AnyN), hole(api.AnyN), false, nil},
	{"a number out of range below", not(hole(8)), not(a), false, nil},
	{"a number out of range below", call(hole(0), hole(-1)), call(a, b), false, nil},
	{"a number out of range below, for itself", call(hole(-1), hole(0)), call(hole(-1), b), false, nil},
	{"AnyN as the number of a KAny below", not(hole(api.AnyN)), not(hole(api.AnyN)), false, nil},
	{"M of a KAny", withM(api.KAny, 0, 5), a, true, []api.Node{a}},
	{"kids of a KAny", node(api.KAny, 0, num(1), num(2)), a, true, []api.Node{a}},
	{"kids of a KAny, for a leaf", node(api.KAny, 0, num(1)), v(1), true, []api.Node{v(1)}},
	{"M and kids of a KAny below", call(withM(api.KAny, 1, -3, num(1)), withM(api.KAny, 1, 3)), call(a, a), true, []api.Node{zero, a}},
	{"a KAny below a KAny", node(api.KAny, 0, hole(3)), a, true, []api.Node{a}},
	{"a KAny out of range below a KAny", not(node(api.KAny, 0, hole(8))), not(a), true, []api.Node{a}},
	{"the same KAny below a KAny", not(node(api.KAny, 0, hole(0))), not(a), true, []api.Node{a}},

	{"two numbers", call(hole(0), hole(1)), call(a, b), true, []api.Node{a, b}},
	{"two numbers", call(hole(1), hole(0)), call(a, b), true, []api.Node{b, a}},
	{"two numbers for the same tree", call(hole(1), hole(0)), call(a, a), true, []api.Node{a, a}},
	{"numbers that do not occur", call(hole(5), hole(2)), call(a, b), true, []api.Node{zero, zero, b, zero, zero, a}},
	{"numbers that do not occur", call(hole(1), hole(3)), call(a, b), true, []api.Node{zero, a, zero, b}},
	{"the same number, for equal trees", call(hole(0), hole(0)), call(a, copyOf(a)), true, []api.Node{a}},
	{"the same number, for equal trees", call(hole(0), hole(0), hole(0)), call(a, a, a), true, []api.Node{a}},
	{"the same number, for equal trees on several levels", call(hole(0), not(hole(0))), call(a, not(a)), true, []api.Node{a}},
	{"the same number, nil and empty", call(hole(0), hole(0)), call(v(1), api.Node{Kind: api.KVar, N: 1, Kids: []api.Node{}}), true, []api.Node{v(1)}},
	{"the same number, for trees of another kind", call(hole(0), hole(0)), call(num(1), v(1)), false, nil},
	{"the same number, for trees of another N", call(hole(0), hole(0)), call(num(1), num(2)), false, nil},
	{"the same number, for trees of another M", call(hole(0), hole(0)), call(num(1), withM(api.KNum, 1, 1)), false, nil},
	{"the same number, for trees of other kids", call(hole(0), hole(0)), call(not(num(1)), not(num(2))), false, nil},
	{"the same number, for trees of more kids", call(hole(0), hole(0)), call(block(), block(num(1))), false, nil},
	{"the same number, for trees of fewer kids", call(hole(0), hole(0)), call(block(num(1), num(1)), block(num(1))), false, nil},
	{"the same number three times, for two trees", call(hole(0), hole(0), hole(0)), call(a, a, b), false, nil},
	{"the same number three times, for two trees", call(hole(0), hole(0), hole(0)), call(a, b, a), false, nil},
	{"the same number three times, for two trees", call(hole(0), hole(0), hole(0)), call(b, a, a), false, nil},
	{"the same number among others", call(hole(0), hole(1), hole(0)), call(a, b, a), true, []api.Node{a, b}},
	{"the same number among others", call(hole(0), hole(1), hole(1)), call(a, b, a), false, nil},
	{"the same number, for AnyN and a number", call(hole(0), hole(0)), call(v(api.AnyN), v(1)), false, nil},
	{"the same number, for the zero node", call(hole(0), hole(0)), call(zero, zero), true, []api.Node{zero}},
	{"the same number, for the zero node and another one", call(hole(0), hole(0)), call(zero, v(0)), false, nil},
	{"the same number below, for other trees", call(not(hole(0)), not(hole(0))), call(not(a), not(b)), false, nil},

	{"no KAny", v(1), v(1), true, nil},
	{"no KAny", call(a, b), call(a, b), true, nil},
	{"another kind", v(1), num(1), false, nil},
	{"another N", v(1), v(2), false, nil},
	{"another M", v(1), withM(api.KVar, 1, 1), false, nil},
	{"another M", withM(api.KField, 1, 2), node(api.KField, 1), false, nil},
	{"the same M", withM(api.KField, 1, 2), withM(api.KField, 1, 2), true, nil},
	{"another kind below", call(v(1)), call(num(1)), false, nil},
	{"another N below", call(v(1)), call(v(2)), false, nil},
	{"another M below", call(v(1)), call(withM(api.KVar, 1, 1)), false, nil},
	{"another last kid", call(hole(0), v(1)), call(a, v(2)), false, nil},
	{"another first kid", call(v(1), hole(0)), call(v(2), a), false, nil},
	{"kids in another order", call(a, b), call(b, a), false, nil},
	{"fewer kids", call(hole(0)), call(), false, nil},
	{"fewer kids", call(hole(0), hole(1)), call(a), false, nil},
	{"more kids", call(), call(a), false, nil},
	{"more kids", call(hole(0)), call(a, b), false, nil},
	{"fewer kids below", not(call(hole(0))), not(call()), false, nil},
	{"more kids below", not(call(hole(0))), not(call(a, b)), false, nil},
	{"a KAny in the tree alone", v(1), hole(1), false, nil},
	{"a KAny in the tree alone, below", not(v(1)), not(hole(0)), false, nil},

	{"AnyN at the root", v(api.AnyN), v(4), true, nil},
	{"AnyN at the root", v(api.AnyN), v(-5), true, nil},
	{"AnyN at the root, for itself", v(api.AnyN), v(api.AnyN), true, nil},
	{"AnyN at the root, with kids", node(api.KCall, api.AnyN, hole(0), hole(1)), node(api.KCall, 5, a, b), true, []api.Node{a, b}},
	{"AnyN at the root, with another kind", v(api.AnyN), num(4), false, nil},
	{"AnyN at the root, with another M", v(api.AnyN), withM(api.KVar, 4, 1), false, nil},
	{"AnyN at the root, with M", withM(api.KField, api.AnyN, 2), withM(api.KField, 4, 2), true, nil},
	{"AnyN at the root, with fewer kids", node(api.KCall, api.AnyN, hole(0)), call(), false, nil},
	{"AnyN at the root, with more kids", node(api.KCall, api.AnyN, hole(0)), call(a, b), false, nil},
	{"AnyN at the root, with another kid", node(api.KCall, api.AnyN, v(1)), call(v(2)), false, nil},
	{"AnyN as N of a kid", not(v(api.AnyN)), not(v(1)), false, nil},
	{"AnyN as N of a kid, for itself", not(v(api.AnyN)), not(v(api.AnyN)), true, nil},
	{"AnyN at the root and as N of a kid", node(api.KElem, api.AnyN, v(api.AnyN)), node(api.KElem, 2, v(2)), false, nil},
	{"AnyN at the root and as N of a kid, for itself", node(api.KElem, api.AnyN, v(api.AnyN)), node(api.KElem, 2, v(api.AnyN)), true, nil},
	{"AnyN in the tree alone", v(1), v(api.AnyN), false, nil},
	{"AnyN as M", withM(api.KVar, 1, api.AnyN), v(1), false, nil},
	{"AnyN as M, for itself", withM(api.KVar, 1, api.AnyN), withM(api.KVar, 1, api.AnyN), true, nil},

	{"a kind that there is not", node(-1, 0, hole(0)), node(-1, 0, a), true, []api.Node{a}},
	{"a kind that there is not", node(999, 4), node(999, 4), true, nil},
	{"a KCond", node(api.KCond, 0, hole(0), hole(0)), node(api.KCond, 0, b, b), true, []api.Node{b}},
	{"33 nodes", block(slices.Repeat([]api.Node{hole(3)}, 32)...), block(slices.Repeat([]api.Node{a}, 32)...), true, []api.Node{zero, zero, zero, a}},
	{"33 nodes, one of which differs", block(slices.Repeat([]api.Node{hole(3)}, 32)...), block(append(slices.Repeat([]api.Node{a}, 31), b)...), false, nil},
	{"9 levels", chain(9, hole(0)), chain(9, b), true, []api.Node{b}},
	{"9 levels, one too many", chain(9, hole(0)), chain(10, b), true, []api.Node{not(b)}},
	{"9 levels, one too few", chain(9, hole(0)), chain(8, v(1)), false, nil},
	{"all numbers", block(hole(7), hole(6), hole(5), hole(4), hole(3), hole(2), hole(1), hole(0)), block(num(0), num(1), num(2), num(3), num(4), num(5), num(6), num(7)), true, []api.Node{num(7), num(6), num(5), num(4), num(3), num(2), num(1), num(0)}},
}

// P14.2: patterns of all kinds, with the trees written by hand.
func TestMatchCases(t *testing.T) {
	for _, x := range matchCases {
		expectMatch(t, x.pattern, x.n, x.want, x.ok, x.what)
	}
}

// smallTrees are all trees of some roots, with up to two kids out of some leaves.
func smallTrees() []api.Node {
	leaves := []api.Node{v(0), v(1), v(api.AnyN), num(0), withM(api.KVar, 0, 1), hole(0), hole(1), hole(8), hole(-1), withM(api.KAny, 0, 2)}
	var l []api.Node
	for _, root := range []api.Node{not(zero), node(api.KNot, api.AnyN), withM(api.KNot, 0, 1), v(0), hole(0), hole(2)} {
		root.Kids = nil
		l = append(l, root)
		for _, x := range leaves {
			root.Kids = []api.Node{x}
			l = append(l, root)
			for _, y := range leaves {
				root.Kids = []api.Node{x, y}
				l = append(l, root)
			}
		}
	}
	return l
}

// P14.2: all small patterns with all small trees.
func TestMatchSmall(t *testing.T) {
	l := smallTrees()
	matched := 0
	for _, pattern := range l {
		for _, n := range l {
			want, ok := plainMatch(pattern, n)
			if ok {
				matched++
			}
			if got, gotOK := ops.Match(pattern, n); gotOK != ok || !slices.EqualFunc(got, want, same) {
				t.Fatalf("P14.2: Match returns %v %v instead of %v %v for %v and %v", got, gotOK, want, ok, pattern, n)
			}
		}
	}
	if matched < 10000 {
		t.Errorf("only %d of the patterns match", matched)
	}
}

// P14.2: any patterns with what they match, and with changes of it.
func TestMatchRandom(t *testing.T) {
	r := rand.New(rand.NewSource(142))
	count := map[bool]int{}
	for range 20000 {
		pattern := anyPattern(r, 4)
		n := instance(r, pattern)
		for range 3 {
			want, ok := plainMatch(pattern, n)
			count[ok]++
			expectMatch(t, pattern, n, want, ok, "random")
			n = changed(r, n)
		}
		n = anyTree(r, 3)
		want, ok := plainMatch(pattern, n)
		expectMatch(t, pattern, n, want, ok, "random")
	}
	if count[true] < 10000 || count[false] < 10000 {
		t.Errorf("%d of the patterns match, and %d do not", count[true], count[false])
	}
	for range 3000 {
		pattern, n := anyNumbers(r, 3), anyNumbers(r, 3)
		for _, x := range []api.Node{n, pattern} {
			want, ok := plainMatch(pattern, x)
			expectMatch(t, pattern, x, want, ok, "any numbers")
		}
	}
}

// P1: patterns and trees of 65536 levels, and of many nodes.
func TestMatchLarge(t *testing.T) {
	deep := chain(1<<16, v(1))
	wide := block(slices.Repeat([]api.Node{num(1)}, 1<<18)...)
	for _, x := range []struct {
		pattern, n api.Node
		ok         bool
		numbers    int
	}{
		{deep, deep, true, 0}, {chain(1<<16, hole(4)), deep, true, 5}, {chain(1<<16, v(2)), deep, false, 0}, {chain(1<<15, hole(0)), deep, true, 1}, {deep, chain(1<<15, v(1)), false, 0},
		{bin(0, hole(0), hole(0)), bin(0, deep, copyOf(deep)), true, 1}, {bin(0, hole(0), hole(0)), bin(0, deep, chain(1<<16, v(2))), false, 0},
		{wide, wide, true, 0}, {block(slices.Repeat([]api.Node{hole(1)}, 1<<18)...), wide, true, 2}, {block(slices.Repeat([]api.Node{hole(1)}, 1<<17)...), wide, false, 0},
	} {
		l, ok := ops.Match(x.pattern, x.n)
		if ok != x.ok || len(l) != x.numbers {
			t.Errorf("P14.2: %v with %d trees instead of %v with %d", ok, len(l), x.ok, x.numbers)
		}
	}
}
