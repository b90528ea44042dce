package ops_test

import (
	"slices"
	"strings"
	"testing"

	"scoria/api"
	"scoria/ops"
	"scoria/tree"
)

func node(kind, n int, kids ...api.Node) api.Node {
	return api.Node{Kind: kind, N: n, Kids: kids}
}

func withM(kind, n, m int, kids ...api.Node) api.Node {
	return api.Node{Kind: kind, N: n, M: m, Kids: kids}
}

func hole(n int) api.Node { return node(api.KAny, n) }

func num(n int) api.Node { return node(api.KNum, n) }

func v(n int) api.Node { return node(api.KVar, n) }

func not(x api.Node) api.Node { return node(api.KNot, 0, x) }

func bin(op int, a, b api.Node) api.Node { return node(api.KBin, op, a, b) }

func block(l ...api.Node) api.Node { return node(api.KBlock, 0, l...) }

// chain has a given depth, one node on each level, and a leaf at its end.
func chain(depth int, leaf api.Node) api.Node {
	for range depth - 1 {
		leaf = not(leaf)
	}
	return leaf
}

// copyOf is n without any of its memory.
func copyOf(n api.Node) api.Node {
	c := withM(n.Kind, n.N, n.M)
	for _, kid := range n.Kids {
		c.Kids = append(c.Kids, copyOf(kid))
	}
	return c
}

// same reports whether two trees are equal, for which nil and empty Kids are.
func same(a, b api.Node) bool {
	return a.Kind == b.Kind && a.N == b.N && a.M == b.M && slices.EqualFunc(a.Kids, b.Kids, same)
}

func sameSite(a, b api.Site) bool { return a.Op == b.Op && slices.Equal(a.Path, b.Path) }

func sameOp(a, b api.Op) bool {
	return a.Name == b.Name && a.Back == b.Back && same(a.Find, b.Find) && same(a.Put, b.Put)
}

// at is the node at a place, which exists.
func at(t *testing.T, n api.Node, path []int) api.Node {
	t.Helper()
	x, ok := tree.At(n, path)
	if !ok {
		t.Fatalf("there is no node at %v", path)
	}
	return x
}

// with is n with another node at a place, which exists.
func with(t *testing.T, n api.Node, path []int, x api.Node) api.Node {
	t.Helper()
	y, e := tree.Set(n, path, x)
	if e != api.OK {
		t.Fatalf("there is no node at %v", path)
	}
	return y
}

// plainNodes has the nodes in preorder.
func plainNodes(n api.Node) []api.Node {
	l := []api.Node{n}
	for _, kid := range n.Kids {
		l = append(l, plainNodes(kid)...)
	}
	return l
}

// plainValid is what makes an operator valid, line by line.
func plainValid(o api.Op) bool {
	name := strings.Trim(o.Name, "abcdefghijklmnopqrstuvwxyz") == "" && len(o.Name) >= 1 && len(o.Name) <= 16
	size := tree.Size(o.Find) <= 32 && tree.Size(o.Put) <= 32 && tree.Depth(o.Find) <= 8 && tree.Depth(o.Put) <= 8
	find, put := plainNodes(o.Find), plainNodes(o.Put)
	kinds, holes := true, o.Find.Kind != api.KAny
	var numbers []int
	for i, x := range slices.Concat(find, put) {
		kinds = kinds && x.Kind >= api.KInt && x.Kind <= api.KAny
		if x.Kind != api.KAny {
			continue
		}
		holes = holes && x.N >= 0 && x.N <= 7 && x.M == 0 && len(x.Kids) == 0
		if i < len(find) {
			numbers = append(numbers, x.N)
		}
		holes = holes && slices.Contains(numbers, x.N)
	}
	isAnyN := func(x api.Node) bool { return x.N == api.AnyN }
	anyN := !slices.ContainsFunc(find[1:], isAnyN) && (isAnyN(find[0]) || !slices.ContainsFunc(put, isAnyN))
	return name && size && kinds && holes && anyN && o.Back >= -1 && o.Back <= 23
}

// plainMatch goes through the places of a pattern, but for those below a KAny, and looks at the same places of a tree.
func plainMatch(pattern, n api.Node) ([]api.Node, bool) {
	stands := map[int][]api.Node{}
	greatest := -1
	var skip []int // the place of the last KAny
	for _, path := range tree.Paths(pattern) {
		if skip != nil && len(path) >= len(skip) && slices.Equal(path[:len(skip)], skip) {
			continue
		}
		p, _ := tree.At(pattern, path)
		x, _ := tree.At(n, path)
		if p.Kind == api.KAny {
			if p.N < 0 || p.N > 7 {
				return nil, false
			}
			skip = append([]int{}, path...)
			stands[p.N] = append(stands[p.N], x)
			greatest = max(greatest, p.N)
			continue
		}
		sameN := x.N == p.N || len(path) == 0 && p.N == api.AnyN
		if !sameN || x.Kind != p.Kind || x.M != p.M || len(x.Kids) != len(p.Kids) {
			return nil, false
		}
	}
	l := make([]api.Node, greatest+1)
	for number, trees := range stands {
		l[number] = trees[0]
		for _, x := range trees {
			if !same(x, trees[0]) {
				return nil, false
			}
		}
	}
	return l, true
}

// plainApply is what an operator makes of a node.
func plainApply(o api.Op, n api.Node) (api.Node, bool) {
	if !plainValid(o) {
		return api.Node{}, false
	}
	return plainChange(o, n)
}

// plainChange puts trees and numbers at the places of Put that ask for them, one after the other. The operator is valid.
func plainChange(o api.Op, n api.Node) (api.Node, bool) {
	stands, ok := plainMatch(o.Find, n)
	if !ok {
		return api.Node{}, false
	}
	out := o.Put
	for _, path := range tree.Paths(o.Put) {
		x, _ := tree.At(out, path)
		if x.Kind == api.KAny {
			x = stands[x.N]
		} else if x.N == api.AnyN {
			x.N = n.N
		}
		out, _ = tree.Set(out, path, x)
	}
	if same(out, n) {
		return api.Node{}, false
	}
	return out, true
}

// plainSites tries each operator that is valid at each place.
func plainSites(p api.Node, l []api.Op) []api.Site {
	var sites []api.Site
	var valid []int
	for i, o := range l {
		if len(l) <= 24 && plainValid(o) {
			valid = append(valid, i)
		}
	}
	for _, path := range tree.Paths(p) {
		x, _ := tree.At(p, path)
		for _, i := range valid {
			if _, ok := plainChange(l[i], x); ok {
				sites = append(sites, api.Site{Path: path, Op: i})
			}
		}
	}
	return sites
}

// plainCompare goes along both paths.
func plainCompare(a, b api.Site) int {
	pairs := [][2]int{}
	for i := range min(len(a.Path), len(b.Path)) {
		pairs = append(pairs, [2]int{a.Path[i], b.Path[i]})
	}
	pairs = append(pairs, [2]int{len(a.Path), len(b.Path)}, [2]int{a.Op, b.Op})
	for _, x := range pairs {
		if x[0] < x[1] {
			return -1
		} else if x[0] > x[1] {
			return 1
		}
	}
	return 0
}

// expectValid expects what Valid says about an operator, of the function and of its plain version.
func expectValid(t *testing.T, o api.Op, want bool, what string) {
	t.Helper()
	if plainValid(o) != want {
		t.Fatalf("the plain version does not say %v: %s, for %v", want, what, o)
	}
	if ops.Valid(o) != want {
		t.Errorf("P14.1: Valid does not say %v: %s, for %v", want, what, o)
	}
}

// expectMatch expects the trees for which numbers stand, of the function and of its plain version.
func expectMatch(t *testing.T, pattern, n api.Node, want []api.Node, wantOK bool, what string) {
	t.Helper()
	if plain, ok := plainMatch(pattern, n); ok != wantOK || !slices.EqualFunc(plain, want, same) {
		t.Fatalf("the plain version says %v %v: %s, for %v and %v", plain, ok, what, pattern, n)
	}
	if got, ok := ops.Match(pattern, n); ok != wantOK || !slices.EqualFunc(got, want, same) {
		t.Errorf("P14.2: Match returns %v %v instead of %v %v: %s, for %v and %v", got, ok, want, wantOK, what, pattern, n)
	}
}

// expectApply expects what an operator makes of a node, of the function and of its plain version.
func expectApply(t *testing.T, o api.Op, n, want api.Node, wantOK bool, what string) {
	t.Helper()
	if plain, ok := plainApply(o, n); ok != wantOK || !same(plain, want) {
		t.Fatalf("the plain version says %v %v: %s, for %v and %v", plain, ok, what, o, n)
	}
	if got, ok := ops.Apply(o, n); ok != wantOK || !same(got, want) {
		t.Errorf("P14.3: Apply returns %v %v instead of %v %v: %s, for %v and %v", got, ok, want, wantOK, what, o, n)
	}
}

// expectSites expects the sites of a tree, of the function and of its plain version.
func expectSites(t *testing.T, p api.Node, l []api.Op, want []api.Site, what string) {
	t.Helper()
	if plain := plainSites(p, l); !slices.EqualFunc(plain, want, sameSite) {
		t.Fatalf("the plain version says %v: %s, for %v", plain, what, p)
	}
	if got := ops.Sites(p, l); !slices.EqualFunc(got, want, sameSite) {
		t.Errorf("P14.4: Sites returns %v instead of %v: %s, for %v", got, want, what, p)
	}
}
