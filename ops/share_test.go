package ops_test

import (
	"math/rand"
	"reflect"
	"slices"
	"testing"

	"scoria/api"
	"scoria/ops"
)

// stain is a number, and mark a node, that no tree and no place of the tests has.
const stain = -777

func mark() api.Node { return node(stain, stain) }

// roomy is n with room behind all of its Kids, where a careless append would leave its traces.
func roomy(n api.Node) api.Node {
	c := api.Node{Kind: n.Kind, N: n.N, M: n.M, Kids: make([]api.Node, 0, len(n.Kids)+3)}
	for _, kid := range n.Kids {
		c.Kids = append(c.Kids, roomy(kid))
	}
	return c
}

// withRoom is n with all that lies in the room behind its Kids, as kids.
func withRoom(n api.Node) api.Node {
	c := api.Node{Kind: n.Kind, N: n.N, M: n.M}
	for _, kid := range n.Kids[:cap(n.Kids)] {
		c.Kids = append(c.Kids, withRoom(kid))
	}
	return c
}

// spoil changes all that can be changed of a tree, also the room behind its Kids.
func spoil(n api.Node) {
	kids := n.Kids[:cap(n.Kids)]
	for i := range kids {
		spoil(kids[i])
		kids[i] = mark()
	}
}

// spoilList changes a list, also the room behind it.
func spoilList[T any](l []T, x T) {
	for i := range l[:cap(l)] {
		l[:cap(l)][i] = x
	}
}

func roomyOp(o api.Op) api.Op {
	o.Find, o.Put = roomy(o.Find), roomy(o.Put)
	return o
}

func copyOfOp(o api.Op) api.Op {
	o.Find, o.Put = copyOf(o.Find), copyOf(o.Put)
	return o
}

func wholeOps(l []api.Op) []api.Op {
	l = slices.Clone(l[:cap(l)])
	for i, o := range l {
		l[i].Find, l[i].Put = withRoom(o.Find), withRoom(o.Put)
	}
	return l
}

// Rules: arguments are not changed.
func TestArgumentsStay(t *testing.T) {
	r := rand.New(rand.NewSource(1412))
	for range 3000 {
		l := make([]api.Op, 0, 10)
		for range 1 + r.Intn(4) {
			l = append(l, roomyOp(anyOp(r)))
		}
		n := roomy(block(instance(r, l[0].Find), anyTree(r, 3)))
		s := []api.Site{{Path: append(make([]int, 0, 5), r.Intn(2), r.Intn(2)), Op: 1}, {Path: append(make([]int, 0, 5), r.Intn(2)), Op: 2}}
		beforeN, beforeOps := withRoom(n), wholeOps(l)
		beforeA, beforeB := slices.Clone(s[0].Path[:5]), slices.Clone(s[1].Path[:5])
		ops.Sites(n, l)
		ops.Compare(s[0], s[1])
		for _, o := range l {
			ops.Valid(o)
			ops.Match(o.Find, n.Kids[0])
			ops.Match(o.Put, n)
			ops.Apply(o, n.Kids[0])
		}
		if !reflect.DeepEqual(withRoom(n), beforeN) || !reflect.DeepEqual(wholeOps(l), beforeOps) {
			t.Fatalf("Rules: the tree %v or the operators %v have changed", n, l)
		}
		if !slices.Equal(s[0].Path[:5], beforeA) || !slices.Equal(s[1].Path[:5], beforeB) {
			t.Fatalf("Rules: the sites %v have changed", s)
		}
	}
}

// Rules: what Match returns shares no memory with arguments, or with what else it returns.
func TestMatchSharesNothing(t *testing.T) {
	r := rand.New(rand.NewSource(1413))
	twin := roomy(call(a, b))
	expect := func(pattern, n api.Node) {
		t.Helper()
		pattern, n = roomy(pattern), roomy(n)
		if n.Kind == api.KBlock && len(n.Kids) == 2 {
			// One tree in two places of an argument is two trees in a result.
			n.Kids[0], n.Kids[1] = twin, twin
		}
		want, ok := plainMatch(pattern, n)
		if !ok {
			return
		}
		before := withRoom(n)
		one, _ := ops.Match(pattern, n)
		two, _ := ops.Match(pattern, n)
		for i := range one {
			spoil(one[i])
			_ = append(one[i].Kids, mark())
			if !slices.EqualFunc(one[i+1:], want[i+1:], same) {
				t.Fatalf("Rules: the trees that Match returns for %v and %v share memory", pattern, n)
			}
		}
		spoilList(one, mark())
		if !slices.EqualFunc(two, want, same) || !reflect.DeepEqual(withRoom(n), before) {
			t.Fatalf("Rules: the trees that Match returns for %v and %v share memory with others", pattern, n)
		}
		if n.Kind == api.KBlock {
			return
		}
		spoil(n)
		spoil(pattern)
		if !slices.EqualFunc(two, want, same) {
			t.Fatalf("Rules: the trees that Match returns share memory with arguments: %v instead of %v", two, want)
		}
	}
	expect(block(hole(0), hole(1)), block(a, b))
	expect(block(hole(0), node(api.KCall, 1, hole(1), hole(2))), block(a, b))
	expect(hole(2), block(a, b))
	for range 3000 {
		pattern := anyPattern(r, 3)
		expect(pattern, instance(r, pattern))
	}
}

// Rules: what Apply returns shares no memory with arguments, with other results, or with other parts of itself.
func TestApplySharesNothing(t *testing.T) {
	r := rand.New(rand.NewSource(1414))
	expect := func(o api.Op, n api.Node) {
		t.Helper()
		o, n = roomyOp(o), roomy(n)
		want, ok := plainApply(o, n)
		if !ok {
			return
		}
		want = copyOf(want)
		beforeN, beforeOp := withRoom(n), wholeOps([]api.Op{o})
		one, _ := ops.Apply(o, n)
		two, _ := ops.Apply(o, n)
		for i := range one.Kids {
			spoil(one.Kids[i])
			one.Kids[i] = mark()
			if !slices.EqualFunc(one.Kids[i+1:], want.Kids[i+1:], same) {
				t.Fatalf("Rules: parts of what %v makes of %v share memory", o, n)
			}
		}
		spoil(one)
		if !same(two, want) || !reflect.DeepEqual(withRoom(n), beforeN) || !reflect.DeepEqual(wholeOps([]api.Op{o}), beforeOp) {
			t.Fatalf("Rules: what %v makes of %v shares memory with others", o, n)
		}
		spoil(n)
		spoil(o.Find)
		spoil(o.Put)
		if !same(two, want) {
			t.Fatalf("Rules: what an operator makes shares memory with arguments: %v instead of %v", two, want)
		}
	}
	expect(rule(not(hole(0)), call(hole(0), hole(0), not(hole(0)))), not(call(a, b)))
	expect(rule(not(hole(0)), hole(0)), not(call(a, b)))
	expect(rule(call(hole(0), hole(1)), call(hole(1), hole(0), hole(1))), call(call(a), call(b)))
	expect(rule(num(1), call(a, b, not(a))), num(1))
	for range 4000 {
		o := anyOp(r)
		expect(o, instance(r, o.Find))
	}
}

// Rules: the places of sites share no memory with each other, or with other results.
func TestSitesShareNothing(t *testing.T) {
	r := rand.New(rand.NewSource(1415))
	for range 100 {
		p := anyProgram(r)
		l := ops.Standard()
		want := plainSites(p, l)
		one, two := ops.Sites(p, l), ops.Sites(p, l)
		for i := range one {
			_ = append(one[i].Path, stain)
			spoilList(one[i].Path, stain)
			if !slices.EqualFunc(one[i+1:], want[i+1:], sameSite) {
				t.Fatalf("Rules: sites share memory with %v", want[i])
			}
		}
		spoilList(one, site(stain))
		spoil(p)
		for _, o := range l {
			spoil(o.Find)
			spoil(o.Put)
		}
		spoilList(l, api.Op{})
		if !slices.EqualFunc(two, want, sameSite) {
			t.Fatalf("Rules: sites share memory with others: %v instead of %v", two, want)
		}
	}
}

// Rules: the standard operators share no memory with each other, with those of another call, or within themselves.
func TestStandardSharesNothing(t *testing.T) {
	one, two := ops.Standard(), ops.Standard()
	var want []api.Op
	for _, o := range one {
		want = append(want, copyOfOp(o))
	}
	for i := range one {
		spoil(one[i].Find)
		_ = append(one[i].Find.Kids, mark())
		if !same(one[i].Put, want[i].Put) {
			t.Fatalf("Rules: Find and Put of the operator %d share memory", i)
		}
		put := one[i].Put
		for k := range put.Kids {
			spoil(put.Kids[k])
			if !slices.EqualFunc(put.Kids[k+1:], want[i].Put.Kids[k+1:], same) {
				t.Fatalf("Rules: parts of the operator %d share memory", i)
			}
		}
		spoil(put)
		if !slices.EqualFunc(one[i+1:], want[i+1:], sameOp) {
			t.Fatalf("Rules: the operator %d shares memory with another one", i)
		}
	}
	spoilList(one, api.Op{Name: "spoiled"})
	_ = append(one, api.Op{})
	if !slices.EqualFunc(two, want, sameOp) || !slices.EqualFunc(ops.Standard(), want, sameOp) {
		t.Fatal("Rules: the operators of another call share memory")
	}
}

// P1, Rules: every function returns for any arguments, equal calls have equal results, and without a result it is zero.
func TestAnyArguments(t *testing.T) {
	r := rand.New(rand.NewSource(1416))
	for range 5000 {
		o := anyOp(r)
		if r.Intn(4) == 0 {
			o = api.Op{Name: "any", Find: anyNumbers(r, 3), Put: anyNumbers(r, 3), Back: edgeNumbers[r.Intn(len(edgeNumbers))]}
		}
		n := []api.Node{anyNumbers(r, 3), anyTree(r, 3), instance(r, o.Find), o.Find}[r.Intn(4)]
		again, m := copyOfOp(o), copyOf(n)
		if ops.Valid(o) != ops.Valid(again) {
			t.Fatal("Rules: equal calls of Valid have other results")
		}
		trees, ok := ops.Match(o.Find, n)
		trees2, ok2 := ops.Match(again.Find, m)
		if ok != ok2 || !slices.EqualFunc(trees, trees2, same) || !ok && len(trees) > 0 {
			t.Fatal("Rules: equal calls of Match have other results, or one has trees with false")
		}
		x, ok := ops.Apply(o, n)
		x2, ok2 := ops.Apply(again, m)
		if ok != ok2 || !same(x, x2) || !ok && !reflect.DeepEqual(x, zero) {
			t.Fatal("Rules: equal calls of Apply have other results, or one has a node with false")
		}
		if !slices.EqualFunc(ops.Sites(n, []api.Op{o, o}), ops.Sites(m, []api.Op{again, again}), sameSite) {
			t.Fatal("Rules: equal calls of Sites have other results")
		}
	}
}
