package ops

import (
	"scoria/api"
	"scoria/tree"
)

// numbers is how many numbers a KAny can have.
const numbers = 8

// hasNumber reports whether a KAny has one of the numbers that it can have.
func hasNumber(x api.Node) bool { return x.N >= 0 && x.N < numbers }

// copyOf returns a tree that shares no memory with n.
func copyOf(n api.Node) api.Node {
	c, _ := tree.At(n, nil)
	return c
}

// match returns the trees for which the numbers of a pattern stand, which are parts of n, and whether the pattern matches.
func match(pattern, n api.Node) ([]api.Node, bool) {
	var trees [numbers]api.Node
	var known [numbers]bool
	count := 0
	var fits func(p, x api.Node, anyN bool) bool
	fits = func(p, x api.Node, anyN bool) bool {
		if p.Kind == api.KAny {
			if !hasNumber(p) {
				return false
			}
			if known[p.N] {
				return tree.Compare(trees[p.N], x) == 0
			}
			trees[p.N], known[p.N] = x, true
			count = max(count, p.N+1)
			return true
		}
		if p.Kind != x.Kind || p.N != x.N && !anyN || p.M != x.M || len(p.Kids) != len(x.Kids) {
			return false
		}
		for i, kid := range p.Kids {
			if !fits(kid, x.Kids[i], false) {
				return false
			}
		}
		return true
	}
	if !fits(pattern, n, pattern.N == api.AnyN) {
		return nil, false
	}
	return trees[:count], true
}

// Match returns the trees for which the numbers of a pattern stand.
func Match(pattern, n api.Node) ([]api.Node, bool) {
	trees, ok := match(pattern, n)
	for i, x := range trees {
		trees[i] = copyOf(x)
	}
	return trees, ok
}

// fill returns what stands in the place of a node with the number n, if the numbers of a pattern stand for trees; these are parts of it.
func fill(put api.Node, n int, trees []api.Node) api.Node {
	if put.Kind == api.KAny {
		return trees[put.N]
	}
	x := api.Node{Kind: put.Kind, N: put.N, M: put.M}
	if x.N == api.AnyN {
		x.N = n
	}
	for _, kid := range put.Kids {
		x.Kids = append(x.Kids, fill(kid, n, trees))
	}
	return x
}

// change returns what a valid operator makes of a node, with parts of this node in it, and whether it changes the node.
func change(o api.Op, n api.Node) (api.Node, bool) {
	trees, ok := match(o.Find, n)
	if !ok {
		return api.Node{}, false
	}
	x := fill(o.Put, n.N, trees)
	return x, tree.Compare(x, n) != 0
}

// Apply returns what an operator puts in the place of a node.
func Apply(o api.Op, n api.Node) (api.Node, bool) {
	if !Valid(o) {
		return api.Node{}, false
	}
	x, ok := change(o, n)
	if !ok {
		return api.Node{}, false
	}
	return copyOf(x), true
}
