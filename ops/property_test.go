package ops_test

import (
	"fmt"
	"math/rand"
	"slices"
	"testing"

	"scoria/api"
	"scoria/ops"
	"scoria/tree"
	"scoria/types"
)

// somePrograms are programs in which nothing is wrong.
func somePrograms(r *rand.Rand, count int) []api.Node {
	var l []api.Node
	for range count {
		l = append(l, anyProgram(r))
	}
	return l
}

// expectEach expects each standard operator to have been met.
func expectEach(t *testing.T, met [24]int, least int, promise string) {
	t.Helper()
	for i, count := range met {
		if count < least {
			t.Errorf("%s: the operator %d was met %d times only", promise, i, count)
		}
	}
}

// expectUndone expects that Back leads back from what a standard operator makes of a node, and reports whether it changes the node and has a Back.
func expectUndone(t *testing.T, l []api.Op, i int, n api.Node) bool {
	t.Helper()
	x, ok := ops.Apply(l[i], n)
	if !ok || l[i].Back < 0 {
		return false
	}
	if again, ok := ops.Apply(l[l[i].Back], x); !ok || !same(again, n) {
		t.Fatalf("P14.7: the operator %d makes %v of %v, and the operator %d makes %v %v of it", i, x, n, l[i].Back, again, ok)
	}
	return true
}

// P14.7: Back leads back, at all nodes of programs.
func TestUndone(t *testing.T) {
	r := rand.New(rand.NewSource(147))
	l := ops.Standard()
	var met [24]int
	for _, p := range somePrograms(r, 300) {
		for _, n := range plainNodes(p) {
			for i := range l {
				if expectUndone(t, l, i, n) {
					met[i]++
				}
			}
		}
	}
	for i, o := range l {
		if o.Back < 0 {
			met[i] = 20
		}
	}
	expectEach(t, met, 20, "P14.7")
}

// P14.7: Back leads back, at any trees that a standard operator changes.
func TestUndoneAnywhere(t *testing.T) {
	r := rand.New(rand.NewSource(1471))
	l := ops.Standard()
	for i, o := range l {
		undone := 0
		for range 2000 {
			n := instance(r, o.Find)
			if r.Intn(3) == 0 {
				n = changed(r, n)
			}
			if expectUndone(t, l, i, n) {
				undone++
			}
		}
		if o.Back >= 0 && undone < 500 {
			t.Errorf("P14.7: the operator %d has changed %d trees only", i, undone)
		}
	}
}

// P14.8: what a standard operator makes of a node leaves programs right.
func TestTyped(t *testing.T) {
	r := rand.New(rand.NewSource(148))
	l := ops.Standard()
	var met [24]int
	for _, p := range somePrograms(r, 400) {
		for _, path := range tree.Paths(p) {
			for i, o := range l {
				x, ok := ops.Apply(o, at(t, p, path))
				if !ok {
					continue
				}
				q := with(t, p, path, x)
				if !tree.Valid(q) {
					continue
				}
				met[i]++
				if place, e := types.Check(q); e != api.OK {
					t.Fatalf("P14.8: the operator %d at %v leads to the error %d at %v in %v", i, path, e, place, p)
				}
			}
		}
	}
	expectEach(t, met, 20, "P14.8")
}

// P14.8: operators that make a program too large or too deep; the same ones, where there is room.
func TestTypedNotValid(t *testing.T) {
	l := ops.Standard()
	program := func(statement api.Node) api.Node {
		return node(api.KProg, 0, node(api.KFun, 0, node(api.KInt, 0), node(api.KBool, 0), node(api.KArr, 2), block(statement)))
	}
	place := []int{0, 3, 0}
	for _, x := range []struct {
		op    int
		n     api.Node
		path  []int
		valid bool
	}{
		{6, node(api.KIf, 0, chain(11, v(1)), block(), block()), place, true},
		{6, node(api.KIf, 0, chain(12, v(1)), block(), block()), place, false},
		{22, node(api.KOut, 0, element(2, element(2, v(0)))), append(slices.Clone(place), 0), true},
	} {
		p := program(x.n)
		if _, e := types.Check(p); e != api.OK {
			t.Fatalf("the program %v has the error %d", p, e)
		}
		got, ok := ops.Apply(l[x.op], at(t, p, x.path))
		q := with(t, p, x.path, got)
		if !ok || tree.Valid(q) != x.valid {
			t.Errorf("P14.8: the operator %d makes %v %v", x.op, got, ok)
		}
		if _, e := types.Check(q); (e == api.OK) != x.valid {
			t.Errorf("P14.8: the operator %d leads to the error %d", x.op, e)
		}
	}
}

// P14.9: a site changes the node at its path, and no other one; all sites there are, in increasing order.
func TestOnePlace(t *testing.T) {
	r := rand.New(rand.NewSource(149))
	found := 0
	for k, p := range somePrograms(r, 60) {
		l := ops.Standard()
		if k%3 == 0 {
			l = append(someOps(r), rule(v(-100), num(2)), rule(node(api.KSet, -100, hole(0)), node(api.KSet, -100, bin(api.Add, hole(0), v(-100)))))
		}
		sites := ops.Sites(p, l)
		found += len(sites)
		paths := tree.Paths(p)
		for i, s := range sites {
			if i > 0 && (ops.Compare(sites[i-1], s) != -1 || tree.Index(p, sites[i-1].Path) > tree.Index(p, s.Path)) {
				t.Fatalf("P14.9: the site %v is followed by %v", sites[i-1], s)
			}
			x, ok := ops.Apply(l[s.Op], at(t, p, s.Path))
			if !ok {
				t.Fatalf("P14.9: the operator of the site %v changes nothing", s)
			}
			q := with(t, p, s.Path, x)
			if same(at(t, q, s.Path), at(t, p, s.Path)) || same(q, p) {
				t.Fatalf("P14.9: nothing changes at the site %v", s)
			}
			for _, path := range paths {
				short := min(len(path), len(s.Path))
				if !slices.Equal(path[:short], s.Path[:short]) && !same(at(t, q, path), at(t, p, path)) {
					t.Fatalf("P14.9: at the site %v, the node at %v changes", s, path)
				}
			}
		}
		all := 0
		for _, n := range plainNodes(p) {
			for _, o := range l {
				if _, ok := ops.Apply(o, n); ok {
					all++
				}
			}
		}
		if all != len(sites) {
			t.Fatalf("P14.9: %d sites instead of %d", len(sites), all)
		}
	}
	if found < 1000 {
		t.Errorf("P14.9: only %d sites", found)
	}
}

// P14.10: an operator whose Put is Find changes nothing that it matches.
func TestRebuilt(t *testing.T) {
	r := rand.New(rand.NewSource(1410))
	rebuilt, anyN := 0, 0
	expect := func(o api.Op, n api.Node) {
		t.Helper()
		if _, ok := ops.Match(o.Find, n); !ok || !ops.Valid(o) {
			return
		}
		rebuilt++
		if o.Find.N == api.AnyN {
			anyN++
		}
		o.Put = o.Find
		if !ops.Valid(o) {
			t.Fatalf("P14.10: the operator %v is not valid", o)
		}
		if x, ok := ops.Apply(o, n); ok || !same(x, zero) {
			t.Fatalf("P14.10: the operator %v makes %v of %v", o, x, n)
		}
		if l := ops.Sites(n, []api.Op{o}); len(l) > 0 && len(l[0].Path) == 0 {
			t.Fatalf("P14.10: the operator %v has a site at the root of %v", o, n)
		}
	}
	for range 20000 {
		o := anyOp(r)
		n := instance(r, o.Find)
		expect(o, n)
		expect(o, changed(r, n))
	}
	for _, p := range somePrograms(r, 40) {
		l := append(ops.Standard(), someOps(r)...)
		for _, n := range plainNodes(p) {
			for _, o := range l {
				expect(o, n)
			}
		}
	}
	if rebuilt < 10000 || anyN < 3000 {
		t.Errorf("P14.10: only %d operators, %d with AnyN", rebuilt, anyN)
	}
}

// P14.2, P14.3: what Match returns, in the place of each KAny of Find, is the node again.
func TestMatchAndFill(t *testing.T) {
	r := rand.New(rand.NewSource(1411))
	seen := map[int]int{}
	for range 20000 {
		o := anyOp(r)
		n := instance(r, o.Find)
		trees, ok := ops.Match(o.Find, n)
		if !ok || !ops.Valid(o) {
			continue
		}
		seen[len(trees)]++
		x := o.Find
		for _, path := range tree.Paths(x) {
			if y := at(t, x, path); y.Kind == api.KAny {
				x = with(t, x, path, trees[y.N])
			}
		}
		if x.N == api.AnyN {
			x.N = n.N
		}
		if !same(x, n) {
			t.Fatalf("P14.2: Match returns %v for %v and %v", trees, o.Find, n)
		}
	}
	for _, count := range []int{0, 1, 2, 3, 8} {
		if seen[count] < 50 {
			t.Errorf("P14.2: %d trees were returned %d times only (%s)", count, seen[count], fmt.Sprint(seen))
		}
	}
}
