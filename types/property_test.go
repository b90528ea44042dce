package types_test

import (
	"math/rand"
	"slices"
	"strconv"
	"testing"

	"scoria/api"
	"scoria/tree"
	"scoria/types"
)

// someTyped are programs in which nothing is wrong.
func someTyped(r *rand.Rand, count int) []api.Node {
	var l []api.Node
	for range count {
		l = append(l, anyProgram(r, false))
	}
	return l
}

// others are expressions of a type in which nothing is wrong in a function, of each kind that there can be.
func others(r *rand.Rand, p api.Node, f, want int) []api.Node {
	m := maker{r: r, p: p, f: f}
	l := slices.Concat(m.named(api.KVar, want), m.named(api.KField, want))
	if want == api.KBool {
		return append(l, yes, node(api.KNot, 0, yes), node(api.KBin, api.Less, num, num), node(api.KBin, api.Some, yes, m.leaf(want)), m.expression(want, 2))
	}
	l = append(l, num, node(api.KBin, api.Add, num, num), node(api.KBin, api.Shr, m.leaf(want), num), m.expression(want, 2))
	for g := range p.Kids {
		l = append(l, node(api.KCall, g, m.args(g, 0)...))
	}
	for _, x := range m.named(api.KElem, api.KArr) {
		l = append(l, node(api.KElem, x.N, num))
	}
	for c := range p.N {
		l = append(l, node(api.KRecv, c))
	}
	return l
}

// P7.4: an expression in the place of another one, of the same type and of the other one.
func TestParts(t *testing.T) {
	r := rand.New(rand.NewSource(74))
	above, kinds := map[string]bool{}, map[int]bool{}
	for _, p := range someTyped(r, 40) {
		for _, path := range tree.Paths(p) {
			x := at(t, p, path)
			if !slices.Contains(expressions, x.Kind) {
				continue
			}
			f := path[0]
			kind, _ := plainType(p, f, x)
			end := len(path) - 1
			parent := at(t, p, path[:end])
			for _, want := range []int{api.KInt, api.KBool} {
				for _, y := range others(r, p, f, want) {
					q := with(t, p, path, y)
					if !tree.Valid(q) {
						continue
					}
					if want == kind {
						expectCheck(t, q, nil, api.OK, "P7.4")
						continue
					}
					expectCheck(t, q, path[:end], api.ErrType, "P7.4")
					above[strconv.Itoa(parent.Kind)+" "+strconv.Itoa(path[end])] = true
					kinds[y.Kind] = true
				}
			}
		}
	}
	for _, x := range []struct{ kind, kids int }{{api.KElem, 1}, {api.KBin, 2}, {api.KNot, 1}, {api.KCall, 3}, {api.KSpawn, 3}, {api.KSet, 1}, {api.KPut, 2}, {api.KFill, 1}, {api.KIf, 1}, {api.KWhile, 1}, {api.KReturn, 1}, {api.KThrow, 1}, {api.KOut, 1}, {api.KSend, 1}} {
		for i := range x.kids {
			if !above[strconv.Itoa(x.kind)+" "+strconv.Itoa(i)] {
				t.Errorf("P7.4: nothing stood in the place of the kid %d of the kind %d", i, x.kind)
			}
		}
	}
	for _, kind := range expressions {
		if !kinds[kind] {
			t.Errorf("P7.4: no expression of the kind %d stood in the place of another one", kind)
		}
	}
}

// P7.5: a further variable, function or channel.
func TestMore(t *testing.T) {
	tried := 0
	expect := func(p api.Node) {
		if tree.Valid(p) {
			expectCheck(t, p, nil, api.OK, "P7.5")
			tried++
		}
	}
	for _, p := range someTyped(rand.New(rand.NewSource(75)), 200) {
		for f, fun := range p.Kids {
			for _, x := range someTypes() {
				q := copyOf(p)
				q.Kids[f].Kids = slices.Insert(q.Kids[f].Kids, len(fun.Kids)-1, x)
				expect(q)
			}
			q := copyOf(p)
			q.Kids = append(q.Kids, copyOf(node(api.KFun, fun.N, append(slices.Clone(fun.Kids[:len(fun.Kids)-1]), empty)...)))
			expect(q)
			q = copyOf(p)
			q.Kids = append(q.Kids, copyOf(fun))
			expect(q)
		}
		q := copyOf(p)
		q.N++
		expect(q)
	}
	if tried < 5000 {
		t.Errorf("P7.5: only %d of the programs are valid", tried)
	}
}

// P7.6: a function less.
func TestLess(t *testing.T) {
	found, nothing := 0, 0
	for _, p := range someTyped(rand.New(rand.NewSource(76)), 800) {
		last := len(p.Kids) - 1
		if last == 0 {
			continue
		}
		q := node(api.KProg, p.N, p.Kids[:last]...)
		paths := tree.Paths(q)
		i := slices.IndexFunc(paths, func(path []int) bool {
			x := at(t, q, path)
			return (x.Kind == api.KCall || x.Kind == api.KSpawn) && x.N == last
		})
		if i < 0 {
			expectCheck(t, q, nil, api.OK, "P7.6")
			nothing++
			continue
		}
		expectCheck(t, q, paths[i], api.ErrRange, "P7.6")
		found++
	}
	if found < 100 || nothing < 100 {
		t.Errorf("P7.6: only %d of the programs call their last function, and %d do not", found, nothing)
	}
}

// P7.7: the types of all expressions of programs in which nothing is wrong, and of such in which something is.
func TestExpressions(t *testing.T) {
	r := rand.New(rand.NewSource(77))
	bad := 0
	for _, p := range slices.Concat(someTyped(r, 200), []api.Node{scene(t, "skip")}) {
		paths := tree.Paths(p)
		for k := range 5 {
			q := p
			if k > 0 {
				q = changed(t, r, p, paths[r.Intn(len(paths))])
			}
			if !tree.Valid(q) {
				continue
			}
			_, e := types.Check(q)
			for _, path := range tree.Paths(q) {
				x := at(t, q, path)
				if !slices.Contains(expressions, x.Kind) {
					continue
				}
				got, wrong := types.Of(q, path[0], x)
				if wrong != api.OK {
					bad++
				}
				if e == api.OK && (wrong != api.OK || got.Kind != api.KInt && got.Kind != api.KBool) {
					t.Fatalf("P7.7: Check finds nothing in %v, but Of %v %d", q, got, wrong)
				}
			}
		}
	}
	if bad < 100 {
		t.Errorf("P7.7: only %d of the expressions are wrong", bad)
	}
}
