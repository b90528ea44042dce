package tree_test

import (
	"reflect"
	"slices"
	"testing"

	"scoria/api"
	"scoria/tree"
)

// stain is a number, and mark a node, that no tree and no place of the tests has.
const stain = -777

func mark() api.Node { return node(stain, stain) }

// roomy is n with room behind all of its Kids, where a careless append would leave its traces.
func roomy(n api.Node) api.Node {
	c := api.Node{Kind: n.Kind, N: n.N, M: n.M, Kids: make([]api.Node, 0, len(n.Kids)+3)}
	for _, kid := range n.Kids {
		c.Kids = append(c.Kids, roomy(kid))
	}
	return c
}

// withRoom is n with all that lies in the room behind its Kids, as kids.
func withRoom(n api.Node) api.Node {
	c := api.Node{Kind: n.Kind, N: n.N, M: n.M}
	for _, kid := range n.Kids[:cap(n.Kids)] {
		c.Kids = append(c.Kids, withRoom(kid))
	}
	return c
}

// spoil changes all that can be changed of a tree, also the room behind its Kids.
func spoil(n api.Node) {
	for i := range n.Kids[:cap(n.Kids)] {
		spoil(n.Kids[:cap(n.Kids)][i])
		n.Kids[:cap(n.Kids)][i] = mark()
	}
}

// spoilList changes a list, also the room behind it.
func spoilList[T any](l []T, x T) {
	for i := range l[:cap(l)] {
		l[:cap(l)][i] = x
	}
}

// all calls every function with a tree, a place and another tree.
func all(n api.Node, path []int, x api.Node) {
	tree.Size(n)
	tree.Depth(n)
	tree.Compare(n, x)
	tree.Paths(n)
	tree.At(n, path)
	tree.Index(n, path)
	tree.Set(n, path, x)
	tree.Valid(n)
	tree.Encode(n)
	tree.Digest(n)
}

// Rules: arguments are not changed.
func TestArgumentsStay(t *testing.T) {
	for i, n := range someTrees() {
		if len(plainNodes(n)) > 300 {
			continue
		}
		n, x := roomy(n), roomy(chain(3))
		paths := append(plainPaths(n), []int{0, -1}, []int{99}, nil)
		for _, path := range paths[max(0, len(paths)-40):] {
			path = slices.Grow(slices.Clone(path), 3)
			beforeN, beforeX, beforePath := withRoom(n), withRoom(x), slices.Clone(path[:cap(path)])
			all(n, path, x)
			if !reflect.DeepEqual(withRoom(n), beforeN) || !reflect.DeepEqual(withRoom(x), beforeX) || !slices.Equal(path[:cap(path)], beforePath) {
				t.Fatalf("Rules: tree %d or the place %v has changed", i, path)
			}
		}
		b := slices.Grow(tree.Encode(n), 20)
		before := slices.Clone(b[:cap(b)])
		tree.Decode(b)
		if !slices.Equal(b[:cap(b)], before) {
			t.Fatalf("Rules: the bytes of tree %d have changed", i)
		}
	}
}

// Rules: what is done to arguments after a call does not change its results, and the other way around.
func TestResultsShareNothingWithArguments(t *testing.T) {
	for i, n := range someTrees() {
		if len(plainNodes(n)) > 300 {
			continue
		}
		for _, path := range plainPaths(n)[:min(len(plainNodes(n)), 20)] {
			fresh := func() (api.Node, []int, api.Node) { return roomy(n), slices.Clone(path), roomy(sample()) }
			wantSet := plainSet(n, path, sample())
			wantAt := plainNodes(n)[tree.Index(n, path)]

			a, p, x := fresh()
			set, _ := tree.Set(a, p, x)
			at, _ := tree.At(a, p)
			paths := tree.Paths(a)
			spoil(a)
			spoil(x)
			spoilList(p, stain)
			if !same(set, wantSet) || !same(at, wantAt) || !slices.EqualFunc(paths, plainPaths(n), slices.Equal) {
				t.Fatalf("Rules: results for tree %d at %v share memory with arguments", i, path)
			}

			a, p, x = fresh()
			set, _ = tree.Set(a, p, x)
			at, _ = tree.At(a, p)
			spoil(set)
			spoil(at)
			if !same(withRoom(a), withRoom(roomy(n))) || !same(withRoom(x), withRoom(roomy(sample()))) || !slices.Equal(p, path) {
				t.Fatalf("Rules: arguments for tree %d at %v share memory with results", i, path)
			}
		}
	}
}

// Rules: what is done to one result, or to a part of it, does not change another one.
func TestResultsShareNothingWithEachOther(t *testing.T) {
	for i, n := range someTrees() {
		if len(plainNodes(n)) > 300 {
			continue
		}
		one, two := tree.Paths(n), tree.Paths(n)
		for k := range one {
			spoilList(one[k], stain)
			_ = append(one[k], stain)
			if !slices.EqualFunc(one[k+1:], plainPaths(n)[k+1:], slices.Equal) || !slices.EqualFunc(two, plainPaths(n), slices.Equal) {
				t.Fatalf("Rules: places of tree %d share memory", i)
			}
		}
		x := chain(4)
		first, _ := tree.Set(n, nil, x)
		second, _ := tree.Set(n, nil, x)
		spoil(first)
		third, _ := tree.At(second, nil)
		spoil(third)
		if !same(second, chain(4)) {
			t.Fatalf("Rules: trees share memory")
		}
		b := tree.Encode(n)
		fourth, _, _ := tree.Decode(b)
		fifth, _, e := tree.Decode(b)
		spoilList(b, 0)
		spoil(fourth)
		if e == api.OK && !same(fifth, n) {
			t.Fatalf("Rules: trees that were read share memory, or share it with the bytes")
		}
		if !slices.Equal(tree.Encode(n), plainEncode(n)) {
			t.Fatalf("Rules: encodings share memory")
		}
	}
}

// Rules: the kids of one result have memory of their own each, also the kids of several nodes.
func TestPartsOfResultsShareNothing(t *testing.T) {
	n := node(api.KBlock, 0, node(1, 0, node(2, 0), node(3, 0)), node(4, 0, node(5, 0)), node(6, 0))
	at, _ := tree.At(n, nil)
	set, _ := tree.Set(node(api.KBlock, 0, n), []int{0}, n)
	read, _, _ := tree.Decode(tree.Encode(n))
	for i, x := range []api.Node{at, set, read} {
		want := copyOf(x)
		spoil(x.Kids[0])
		_ = append(x.Kids[0].Kids, mark())
		want.Kids[0] = copyOf(x.Kids[0])
		if !same(x, want) {
			t.Errorf("Rules: parts of tree %d share memory", i)
		}
	}
	// One tree in two places of an argument is two trees in a result.
	twin := node(1, 0, node(2, 0))
	both, _ := tree.At(node(0, 0, twin, twin), nil)
	spoil(both.Kids[0])
	if !same(both.Kids[1], twin) {
		t.Error("Rules: both kids share memory")
	}
}

// P1: every function returns for every combination of many arguments, and equal calls have equal results.
func TestAllArguments(t *testing.T) {
	paths := [][]int{nil, {}, {0}, {1}, {-1}, {0, 0}, {0, 1, 2}, {-1 << 63}, {1<<63 - 1}, {0, -1 << 63, 0}}
	trees := slices.DeleteFunc(someTrees(), func(n api.Node) bool { return len(plainNodes(n)) > 300 })
	for _, n := range trees {
		for _, path := range paths {
			x := trees[len(path)]
			all(n, path, x)
			one, e := tree.Set(n, path, x)
			two, f := tree.Set(n, path, x)
			if e != f || !reflect.DeepEqual(one, two) {
				t.Fatalf("Rules: equal calls of Set have other results")
			}
		}
	}
}
