package ops_test

import (
	"math/rand"
	"testing"

	"scoria/api"
	"scoria/ops"
)

// rule is a valid operator with a pattern, and what stands in its place.
func rule(find, put api.Node) api.Op {
	return api.Op{Name: "rule", Find: find, Put: put, Back: -1}
}

// element is a KElem with AnyN as N, or with a number.
func element(n int, index api.Node) api.Node { return node(api.KElem, n, index) }

// applyCases are operators, nodes, and what they make of them; zero, if they change nothing.
var applyCases = []struct {
	what    string
	o       api.Op
	n, want api.Node
}{
	{"kids change places", rule(call(hole(0), hole(1)), call(hole(1), hole(0))), call(a, b), call(b, a)},
	{"equal kids change places", rule(call(hole(0), hole(1)), call(hole(1), hole(0))), call(a, a), zero},
	{"nil and empty kids change places", rule(call(hole(0), hole(1)), call(hole(1), hole(0))), call(v(1), api.Node{Kind: api.KVar, N: 1, Kids: []api.Node{}}), zero},
	{"no match", rule(call(hole(0), hole(1)), num(1)), call(a), zero},
	{"no match of the same number", rule(call(hole(0), hole(0)), num(1)), call(a, b), zero},
	{"a match of the same number", rule(call(hole(0), hole(0)), hole(0)), call(b, b), b},
	{"Put is Find", rule(call(hole(0), hole(1)), call(hole(0), hole(1))), call(a, b), zero},
	{"Put is the node", rule(call(hole(0)), call(v(1))), call(v(1)), zero},
	{"Put is the node for other kids only", rule(call(hole(0)), call(v(1))), call(v(2)), call(v(1))},
	{"M changes", rule(node(api.KField, 1), withM(api.KField, 1, 2)), node(api.KField, 1), withM(api.KField, 1, 2)},
	{"M stays", rule(withM(api.KField, 1, 2), withM(api.KField, 2, 2)), withM(api.KField, 1, 2), withM(api.KField, 2, 2)},
	{"a KAny once", rule(not(hole(0)), hole(0)), not(a), a},
	{"a KAny of a node that is below itself", rule(not(hole(0)), hole(0)), not(not(not(a))), not(not(a))},
	{"a KAny several times", rule(not(hole(0)), call(hole(0), not(hole(0)), hole(0))), not(b), call(b, not(b), b)},
	{"a KAny not at all", rule(call(hole(0), hole(1)), hole(1)), call(a, b), b},
	{"no KAny in Put", rule(call(hole(0), hole(1)), num(3)), call(a, b), num(3)},
	{"no KAny anywhere", rule(num(3), num(4)), num(3), num(4)},
	{"the greatest number", rule(call(hole(7), hole(0)), call(hole(0), hole(7), hole(7))), call(a, b), call(b, a, a)},
	{"KAny in the node", rule(not(hole(1)), call(hole(1), hole(1))), not(hole(9)), call(hole(9), hole(9))},
	{"KAny in the node", rule(call(hole(0), hole(1)), call(hole(1), hole(0))), call(hole(1), hole(0)), call(hole(0), hole(1))},
	{"AnyN at the root of both", rule(element(-100, hole(0)), element(-100, not(hole(0)))), element(4, a), element(4, not(a))},
	{"AnyN at the root of Find", rule(element(-100, hole(0)), element(2, hole(0))), element(4, a), element(2, a)},
	{"AnyN at the root of Find, and nothing else", rule(element(-100, hole(0)), element(2, hole(0))), element(2, a), zero},
	{"AnyN below in Put", rule(element(-100, hole(0)), call(hole(0), v(-100), not(v(-100)))), element(4, a), call(a, v(4), not(v(4)))},
	{"AnyN at the root of Put and below", rule(v(-100), node(api.KCall, -100, v(-100), num(-100))), v(-7), node(api.KCall, -7, v(-7), num(-7))},
	{"AnyN that makes the same", rule(element(-100, hole(0)), element(-100, hole(0))), element(4, a), zero},
	{"AnyN for itself", rule(element(-100, hole(0)), not(v(-100))), element(-100, a), not(v(-100))},
	{"AnyN for 0", rule(v(-100), not(v(-100))), v(0), not(v(0))},
	{"AnyN in the tree for which a number stands", rule(element(-100, hole(0)), element(-100, not(hole(0)))), element(4, v(-100)), element(4, not(v(-100)))},
	{"AnyN as M in Put", rule(element(-100, hole(0)), withM(api.KNum, 1, -100)), element(4, a), withM(api.KNum, 1, -100)},
	{"AnyN as N of a kid, for another number", rule(call(v(1)), num(1)), call(v(-100)), zero},
	{"another result with the same nodes", rule(call(hole(0)), not(hole(0))), call(a), not(a)},
	{"a result that is longer by a node", rule(block(hole(0)), block(hole(0), hole(0))), block(a), block(a, a)},
	{"a result that is shorter by a node", rule(block(hole(0), hole(1)), block(hole(0))), block(a, b), block(a)},
	{"the zero node as a result", rule(not(hole(0)), hole(0)), not(zero), zero},
}

// P14.3: what operators make of nodes, written by hand.
func TestApplyCases(t *testing.T) {
	for _, x := range applyCases {
		expectApply(t, x.o, x.n, x.want, x.what == "the zero node as a result" || !same(x.want, zero), x.what)
	}
}

// P14.3: an operator that is not valid changes nothing, also where it matches.
func TestApplyNotValid(t *testing.T) {
	n := call(a, v(-100))
	fine := rule(call(hole(0), hole(1)), not(hole(0)))
	expectApply(t, fine, n, not(a), true, "valid")
	for what, change := range map[string]func(o *api.Op){
		"no name":                      func(o *api.Op) { o.Name = "" },
		"a capital letter":             func(o *api.Op) { o.Name = "Rule" },
		"a long name":                  func(o *api.Op) { o.Name = "rulerulerulerulex" },
		"Back":                         func(o *api.Op) { o.Back = 24 },
		"Back below":                   func(o *api.Op) { o.Back = -2 },
		"a number in Put":              func(o *api.Op) { o.Put = not(hole(2)) },
		"a great number in Put":        func(o *api.Op) { o.Put = not(hole(8)) },
		"a negative number in Put":     func(o *api.Op) { o.Put = hole(-1) },
		"M of a KAny in Find":          func(o *api.Op) { o.Find.Kids[0].M = 1 },
		"kids of a KAny in Find":       func(o *api.Op) { o.Find.Kids[1].Kids = []api.Node{num(1)} },
		"M of a KAny in Put":           func(o *api.Op) { o.Put.Kids[0].M = 1 },
		"kids of a KAny in Put":        func(o *api.Op) { o.Put.Kids[0].Kids = []api.Node{num(1)} },
		"AnyN in Put":                  func(o *api.Op) { o.Put = v(-100) },
		"AnyN below in Find":           func(o *api.Op) { o.Find.Kids[1] = v(-100) },
		"AnyN at the root and below":   func(o *api.Op) { o.Find = node(api.KCall, -100, hole(0), v(-100)) },
		"a KAny alone":                 func(o *api.Op) { o.Find = hole(0) },
		"a kind that there is not":     func(o *api.Op) { o.Put = node(-1, 0) },
		"a KCond":                      func(o *api.Op) { o.Put = node(api.KCond, 0) },
		"a Put that is too deep":       func(o *api.Op) { o.Put = chain(9, hole(0)) },
		"a Put that has too many kids": func(o *api.Op) { o.Put = block(make([]api.Node, 32)...) },
	} {
		o := rule(copyOf(fine.Find), copyOf(fine.Put))
		change(&o)
		expectApply(t, o, n, zero, false, what)
		expectSites(t, n, []api.Op{o, o}, nil, what)
	}
	x := rule(node(api.KCond, 0, hole(0)), hole(0))
	expectApply(t, x, node(api.KCond, 0, a), zero, false, "a KCond in Find")
	x = rule(chain(9, num(1)), num(1))
	expectApply(t, x, chain(9, num(1)), zero, false, "a Find that is too deep")
	x = rule(block(make([]api.Node, 32)...), num(1))
	expectApply(t, x, block(make([]api.Node, 32)...), zero, false, "a Find that has too many kids")
	x = rule(chain(8, num(1)), chain(8, num(2)))
	expectApply(t, x, chain(8, num(1)), chain(8, num(2)), true, "as deep as there can be")
	x = rule(block(make([]api.Node, 31)...), num(1))
	expectApply(t, x, block(make([]api.Node, 31)...), num(1), true, "as many nodes as there can be")
}

// P14.3: any operators, on what they match, and on changes of it.
func TestApplyRandom(t *testing.T) {
	r := rand.New(rand.NewSource(143))
	count := map[string]int{}
	for range 40000 {
		o := anyOp(r)
		n := instance(r, o.Find)
		for range 2 {
			_, matches := ops.Match(o.Find, n)
			want, ok := plainApply(o, n)
			switch {
			case !ops.Valid(o) && matches:
				count["not valid"]++
			case !matches:
				count["no match"]++
			case !ok:
				count["no change"]++
			default:
				count["change"]++
			}
			expectApply(t, o, n, want, ok, "random")
			n = changed(r, n)
		}
	}
	for _, what := range []string{"not valid", "no match", "no change", "change"} {
		if count[what] < 1000 {
			t.Errorf("%s: only %d times", what, count[what])
		}
	}
	for range 3000 {
		o := api.Op{Name: "x", Find: anyNumbers(r, 3), Put: anyNumbers(r, 3), Back: -1}
		for _, n := range []api.Node{o.Find, anyNumbers(r, 3)} {
			want, ok := plainApply(o, n)
			expectApply(t, o, n, want, ok, "any numbers")
		}
	}
}

// P1: nodes with 65536 levels below them, and results that are large.
func TestApplyLarge(t *testing.T) {
	deep := chain(1<<16-2, v(1))
	for _, x := range []struct {
		o       api.Op
		n, want api.Node
		ok      bool
	}{
		{rule(not(hole(0)), hole(0)), not(deep), deep, true},
		{rule(call(hole(0), hole(0)), call(hole(0))), call(deep, deep), call(deep), true},
		{rule(call(hole(0), hole(1)), call(hole(1), hole(0))), call(deep, deep), zero, false},
		{rule(not(hole(0)), call(hole(0), hole(0), hole(0))), not(deep), call(deep, deep, deep), true},
		{rule(num(1), num(0)), deep, zero, false},
	} {
		if got, ok := ops.Apply(x.o, x.n); ok != x.ok || !same(got, x.want) {
			t.Errorf("P14.3: %v instead of %v for a deep tree", ok, x.ok)
		}
	}
}
