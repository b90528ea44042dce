package tree_test

import (
	"cmp"
	"math"
	"math/rand"
	"reflect"
	"runtime"
	"slices"
	"testing"

	"scoria/api"
	"scoria/hash"
	"scoria/tree"
	"scoria/wire"
)

func node(kind, n int, kids ...api.Node) api.Node {
	return api.Node{Kind: kind, N: n, Kids: kids}
}

// chain has a given depth, and one node on each level.
func chain(depth int) api.Node {
	n := node(api.KSkip, 1)
	for range depth - 1 {
		n = node(api.KBlock, 0, n)
	}
	return n
}

// copyOf is n without any of its memory.
func copyOf(n api.Node) api.Node {
	c := api.Node{Kind: n.Kind, N: n.N, M: n.M}
	for _, kid := range n.Kids {
		c.Kids = append(c.Kids, copyOf(kid))
	}
	return c
}

// same reports whether two trees are equal, for which nil and empty Kids are.
func same(a, b api.Node) bool {
	return a.Kind == b.Kind && a.N == b.N && a.M == b.M && slices.EqualFunc(a.Kids, b.Kids, same)
}

// plainPaths is the definition of preorder: the root, and then the places of each kid below its index.
func plainPaths(n api.Node) [][]int {
	l := [][]int{{}}
	for i, kid := range n.Kids {
		for _, below := range plainPaths(kid) {
			l = append(l, append([]int{i}, below...))
		}
	}
	return l
}

// plainNodes has the nodes in preorder.
func plainNodes(n api.Node) []api.Node {
	l := []api.Node{}
	var collect func(n api.Node)
	collect = func(n api.Node) {
		l = append(l, n)
		for _, kid := range n.Kids {
			collect(kid)
		}
	}
	collect(n)
	return l
}

func plainDepth(n api.Node) int {
	deepest := 0
	for _, kid := range n.Kids {
		deepest = max(deepest, plainDepth(kid))
	}
	return deepest + 1
}

// plainCompare is the order of trees, word for word.
func plainCompare(a, b api.Node) int {
	switch {
	case a.Kind != b.Kind:
		return cmp.Compare(a.Kind, b.Kind)
	case a.N != b.N:
		return cmp.Compare(a.N, b.N)
	case a.M != b.M:
		return cmp.Compare(a.M, b.M)
	}
	for i := range min(len(a.Kids), len(b.Kids)) {
		if order := plainCompare(a.Kids[i], b.Kids[i]); order != 0 {
			return order
		}
	}
	return cmp.Compare(len(a.Kids), len(b.Kids))
}

// plainSet has x in the place of the node at a place, which exists.
func plainSet(n api.Node, path []int, x api.Node) api.Node {
	if len(path) == 0 {
		return copyOf(x)
	}
	n = copyOf(n)
	n.Kids[path[0]] = plainSet(n.Kids[path[0]], path[1:], x)
	return n
}

// plainEncode is the encoding of trees, word for word.
func plainEncode(n api.Node) []byte {
	var b []byte
	for _, x := range plainNodes(n) {
		b = append(b, wire.Int(4)...)
		for _, number := range []int{x.Kind, x.N, x.M, len(x.Kids)} {
			b = append(b, wire.Int(number)...)
		}
	}
	return b
}

// edgeNumbers are numbers for Kind, N and M: inside and outside of all bounds.
func edgeNumbers() []int {
	l := []int{math.MinInt, math.MinInt + 1, math.MaxInt - 1, math.MaxInt, -1 << 32, 1 << 32, api.AnyN, api.Kinds, api.Kinds + 1}
	for n := -10; n <= 30; n++ {
		l = append(l, n)
	}
	for _, n := range []int{127, 128, 255, 256, 257, 1 << 15, 1 << 16, 1 << 31} {
		l = append(l, n, -n)
	}
	return l
}

// anyTree is a tree of any numbers.
func anyTree(r *rand.Rand, depth int) api.Node {
	numbers := edgeNumbers()
	pick := func() int { return numbers[r.Intn(len(numbers))] }
	n := api.Node{Kind: pick(), N: pick(), M: pick()}
	if r.Intn(2) == 0 {
		n.Kids = []api.Node{}
	}
	if depth > 1 {
		for range r.Intn(4) {
			n.Kids = append(n.Kids, anyTree(r, r.Intn(depth-1)+1))
		}
	}
	return n
}

// smallTrees has all trees of up to four nodes in which each number is one of few.
func smallTrees() []api.Node {
	var heads []api.Node
	for _, x := range [][3]int{{0, 0, 0}, {0, 0, 1}, {0, 1, 0}, {1, 0, 0}, {-1, 5, 5}} {
		heads = append(heads, api.Node{Kind: x[0], N: x[1], M: x[2]})
	}
	var l []api.Node
	for _, a := range heads {
		l = append(l, a)
		for i, b := range heads {
			l = append(l, api.Node{Kind: a.Kind, N: a.N, M: a.M, Kids: []api.Node{b}})
			for k, c := range heads[:3] {
				l = append(l, api.Node{Kind: a.Kind, N: a.N, M: a.M, Kids: []api.Node{b, c}})
				deeper := b
				deeper.Kids = []api.Node{c}
				l = append(l, api.Node{Kind: a.Kind, N: a.N, M: a.M, Kids: []api.Node{deeper}})
				l = append(l, api.Node{Kind: a.Kind, N: a.N, M: a.M, Kids: []api.Node{deeper, heads[(i+k)%len(heads)]}})
			}
		}
	}
	return l
}

// someTrees has trees of all shapes; those that are not programs are in the majority.
func someTrees() []api.Node {
	r := rand.New(rand.NewSource(5))
	l := []api.Node{
		{}, {Kids: []api.Node{}}, node(api.KNum, -8), {Kind: math.MinInt, N: math.MaxInt, M: math.MinInt},
		node(api.KBin, api.Add, node(api.KVar, 0), node(api.KNum, 1)),
		node(api.KAny, 3), node(api.KCond, 0, node(api.KAny, 0), node(api.KAny, 1), node(api.KAny, api.AnyN)),
		chain(16), chain(17), chain(24), chain(25), chain(100),
		node(api.KBlock, 0, make([]api.Node, 255)...), node(api.KBlock, 0, make([]api.Node, 256)...), node(api.KBlock, 0, make([]api.Node, 1000)...),
		node(-3, 0, chain(3), node(0, 0), chain(5), node(1, 1, make([]api.Node, 12)...)),
		sample(), longest(), deepest(),
	}
	for range 60 {
		l = append(l, anyTree(r, 7))
	}
	for range 20 {
		l = append(l, anyProgram(r))
	}
	return l
}

// P5.1: what the words of the chapter say about particular trees.
func TestSizeAndDepth(t *testing.T) {
	for i, x := range []struct {
		n           api.Node
		size, depth int
	}{
		{api.Node{}, 1, 1},
		{api.Node{Kids: []api.Node{}}, 1, 1},
		{node(-7, math.MaxInt), 1, 1},
		{node(api.KBin, api.Add, node(api.KVar, 0), node(api.KNum, 1)), 3, 2},
		{node(api.KBlock, 0, chain(1), chain(4), chain(2)), 8, 5},
		{node(api.KBlock, 0, chain(4), chain(1)), 6, 5},
		{node(api.KBlock, 0, make([]api.Node, 300)...), 301, 2},
		{chain(16), 16, 16},
		{chain(17), 17, 17},
		{chain(25), 25, 25},
		{chain(1 << 16), 1 << 16, 1 << 16},
	} {
		if size, depth := tree.Size(x.n), tree.Depth(x.n); size != x.size || depth != x.depth {
			t.Errorf("P5.1: tree %d: size %d, depth %d", i, size, depth)
		}
	}
	for i, n := range append(someTrees(), smallTrees()...) {
		if size := tree.Size(n); size != len(plainNodes(n)) {
			t.Errorf("P5.1: tree %d: size %d", i, size)
		}
		if depth := tree.Depth(n); depth != plainDepth(n) {
			t.Errorf("P5.1: tree %d: depth %d", i, depth)
		}
	}
}

// P5.1 and P5.8: the order by each part of a node, also by numbers whose difference is no int.
func TestCompareByParts(t *testing.T) {
	least, most := math.MinInt, math.MaxInt
	// In each pair the first one is before.
	for i, x := range []struct{ a, b api.Node }{
		{api.Node{Kind: least, N: most, M: most, Kids: make([]api.Node, 3)}, api.Node{Kind: most, N: least, M: least}},
		{api.Node{Kind: 1, N: 9, M: 9, Kids: make([]api.Node, 3)}, api.Node{Kind: 2}},
		{api.Node{N: least, M: most, Kids: make([]api.Node, 3)}, api.Node{N: most, M: least}},
		{api.Node{N: -1, M: 1}, api.Node{}},
		{api.Node{M: least, Kids: make([]api.Node, 3)}, api.Node{M: most}},
		{api.Node{M: -1, Kids: make([]api.Node, 3)}, api.Node{}},
		// The first of the kids that differ counts, before their number.
		{node(0, 0, node(1, 0), node(1, 0), node(9, 9)), node(0, 0, node(1, 0), node(2, 0))},
		{node(0, 0, node(1, 0), node(9, 0)), node(0, 0, node(2, 0), node(0, 0))},
		{node(0, 0, node(1, 0, node(9, 9, node(9, 9)))), node(0, 0, node(1, 1))},
		{node(0, 0), node(0, 0, node(least, least))},
		{node(0, 0, node(3, 0)), node(0, 0, node(3, 0), node(least, 0))},
		{node(0, 0, node(3, 0), node(9, 0)), node(0, 0, node(3, 0, node(0, 0)))},
		{chain(4), chain(3)},
	} {
		if c := tree.Compare(x.a, x.b); c != -1 {
			t.Errorf("P5.1: pair %d: %d", i, c)
		}
		if c := tree.Compare(x.b, x.a); c != 1 {
			t.Errorf("P5.1: pair %d exchanged: %d", i, c)
		}
	}
	deep := chain(1 << 16)
	if tree.Compare(deep, chain(1<<16)) != 0 || tree.Compare(deep, chain(1<<16-1)) == 0 {
		t.Error("P5.1: trees that are deep")
	}
	if tree.Compare(api.Node{Kids: []api.Node{}}, api.Node{}) != 0 {
		t.Error("P5.1: nil and empty Kids are the same")
	}
}

// P5.1 and P5.8: all pairs of many trees, and by that transitivity: the trees stand in a line in which before is less.
func TestCompareIsAnOrder(t *testing.T) {
	l := append(smallTrees(), someTrees()...)
	slices.SortStableFunc(l, plainCompare)
	rank := make([]int, len(l))
	for i := 1; i < len(l); i++ {
		rank[i] = rank[i-1]
		if !same(l[i-1], l[i]) {
			rank[i]++
		}
	}
	for i, a := range l {
		for k, b := range l {
			if c := tree.Compare(a, b); c != cmp.Compare(rank[i], rank[k]) {
				t.Fatalf("P5.8: trees %d and %d: %d", i, k, c)
			}
		}
	}
}

// P5.8: trees that differ in one node.
func TestCompareAfterOneChange(t *testing.T) {
	for _, n := range someTrees() {
		for i, path := range plainPaths(n)[:min(len(plainNodes(n)), 40)] {
			old := plainNodes(n)[i]
			for _, x := range []api.Node{
				{Kind: old.Kind + 1, N: old.N, M: old.M, Kids: old.Kids},
				{Kind: old.Kind, N: old.N - 1, M: old.M, Kids: old.Kids},
				{Kind: old.Kind, N: old.N, M: old.M + 1, Kids: old.Kids},
				{Kind: old.Kind, N: old.N, M: old.M, Kids: append(slices.Clone(old.Kids), node(-9, 0))},
				chain(2),
			} {
				m := plainSet(n, path, x)
				if tree.Compare(n, m) != tree.Compare(old, x) || tree.Compare(m, n) != tree.Compare(x, old) {
					t.Fatalf("P5.8: the change of %v to %v", old, x)
				}
			}
		}
	}
}

// P5.2 and P5.6
func TestPlaces(t *testing.T) {
	for i, n := range append(someTrees(), smallTrees()...) {
		paths := tree.Paths(n)
		if !slices.EqualFunc(paths, plainPaths(n), slices.Equal) {
			t.Fatalf("P5.2: tree %d: %v", i, paths)
		}
		nodes := plainNodes(n)
		for k, path := range paths {
			if x, is := tree.At(n, path); !is || !same(x, nodes[k]) {
				t.Errorf("P5.6: tree %d, place %v: %v, %v", i, path, x, is)
			}
			if at := tree.Index(n, path); at != k {
				t.Errorf("P5.6: tree %d, place %v: %d", i, path, at)
			}
		}
	}
}

// P5.2 and P5.3: the root's place, nil and empty.
func TestRoot(t *testing.T) {
	for i, n := range someTrees() {
		for _, root := range [][]int{nil, {}} {
			if x, is := tree.At(n, root); !is || !same(x, n) {
				t.Errorf("P5.2: tree %d: %v", i, is)
			}
			if at := tree.Index(n, root); at != 0 {
				t.Errorf("P5.2: tree %d: %d", i, at)
			}
			if x, e := tree.Set(n, root, chain(3)); e != api.OK || !same(x, chain(3)) {
				t.Errorf("P5.3: tree %d: %v, error %d", i, x, e)
			}
		}
	}
}

// noPlaces has lists near each place that are not in it: indices beside those of the kids, and lists that go on below them.
func noPlaces(n api.Node) [][]int {
	var l [][]int
	for i, x := range plainNodes(n) {
		path := plainPaths(n)[i]
		for _, index := range []int{-1, len(x.Kids), len(x.Kids) + 1, -len(x.Kids) - 1, 1 << 32, -1 << 32, math.MinInt, math.MaxInt} {
			l = append(l, slices.Concat(path, []int{index}), slices.Concat(path, []int{index, 0}), slices.Concat(path, []int{index, -1, 1}))
		}
	}
	return l
}

// P5.2 and P5.3: places that do not exist.
func TestNoPlaces(t *testing.T) {
	for i, n := range someTrees() {
		if len(plainNodes(n)) > 100 {
			continue
		}
		for _, path := range noPlaces(n) {
			if x, is := tree.At(n, path); is || !reflect.DeepEqual(x, api.Node{}) {
				t.Errorf("P5.2: tree %d, place %v: %v, %v", i, path, x, is)
			}
			if at := tree.Index(n, path); at != -1 {
				t.Errorf("P5.2: tree %d, place %v: %d", i, path, at)
			}
			if x, e := tree.Set(n, path, chain(2)); e != api.ErrNone || !reflect.DeepEqual(x, api.Node{}) {
				t.Errorf("P5.3: tree %d, place %v: %v, error %d", i, path, x, e)
			}
		}
	}
}

// P5.2 and P5.3: places far down.
func TestDeepPlaces(t *testing.T) {
	const depth = 1 << 16
	n := chain(depth)
	down := make([]int, depth-1)
	if x, is := tree.At(n, down); !is || !same(x, node(api.KSkip, 1)) {
		t.Errorf("P5.2: %v, %v", x, is)
	}
	if at := tree.Index(n, down); at != depth-1 {
		t.Errorf("P5.2: %d", at)
	}
	if x, e := tree.Set(n, down, node(api.KSkip, 2)); e != api.OK || !same(plainNodes(x)[depth-1], node(api.KSkip, 2)) {
		t.Errorf("P5.3: error %d", e)
	}
	below := append(down, 0)
	if _, is := tree.At(n, below); is || tree.Index(n, below) != -1 {
		t.Error("P5.2: a place below all others")
	}
	if _, e := tree.Set(n, below, n); e != api.ErrNone {
		t.Errorf("P5.3: error %d", e)
	}
	paths := tree.Paths(chain(2000))
	if len(paths) != 2000 || len(paths[1999]) != 1999 {
		t.Errorf("P5.2: %d places", len(paths))
	}
}

// above reports whether one of two places is on the way to the other.
func above(a, b []int) bool {
	k := min(len(a), len(b))
	return slices.Equal(a[:k], b[:k])
}

// P5.3 and P5.7
func TestSet(t *testing.T) {
	for i, n := range append(someTrees(), smallTrees()...) {
		nodes, paths := plainNodes(n), plainPaths(n)
		for k, path := range paths[:min(len(paths), 30)] {
			for _, x := range []api.Node{{}, node(-5, 3), chain(30), n, node(api.KBlock, 0, n, nodes[k])} {
				m, e := tree.Set(n, path, x)
				if e != api.OK || !same(m, plainSet(n, path, x)) {
					t.Fatalf("P5.3: tree %d, place %v: error %d", i, path, e)
				}
				if got, is := tree.At(m, path); !is || !same(got, x) {
					t.Fatalf("P5.7: tree %d, place %v: %v", i, path, got)
				}
				if back, e := tree.Set(m, path, nodes[k]); e != api.OK || !same(back, n) {
					t.Fatalf("P5.7: tree %d, place %v: the way back, error %d", i, path, e)
				}
				for j, other := range paths[:min(len(paths), 30)] {
					if above(path, other) {
						continue
					}
					if got, is := tree.At(m, other); !is || !same(got, nodes[j]) {
						t.Fatalf("P5.7: tree %d, place %v after Set at %v: %v", i, other, path, got)
					}
				}
			}
		}
	}
}

// P5.5: the encoding, and the digest, which is that of the encoding.
func TestEncode(t *testing.T) {
	for i, n := range append(someTrees(), smallTrees()...) {
		b := tree.Encode(n)
		if !slices.Equal(b, plainEncode(n)) {
			t.Errorf("P5.5: tree %d: %v", i, b)
		}
		if tree.Digest(n) != hash.Of(api.TagTree, string(b)) {
			t.Errorf("P5.5: the digest of tree %d", i)
		}
	}
	// Each node of the chain has 2 bytes before its numbers, of which two need a byte more than 0 does.
	if many := len(tree.Encode(chain(1 << 16))); many != 8<<16 {
		t.Errorf("P5.5: the encoding of a tree that is deep: %d bytes", many)
	}
}

// P5.5 and P5.9: encodings, with anything behind them; trees that are too deep have none that is read.
func TestDecodeOfEncode(t *testing.T) {
	for i, n := range append(someTrees(), smallTrees()...) {
		b := plainEncode(n)
		for _, after := range [][]byte{nil, {0}, {129}, {129, 4}, {255, 255}, b, plainEncode(chain(30))} {
			got, used, e := tree.Decode(slices.Concat(b, after))
			if plainDepth(n) > 24 {
				noTree(t, slices.Concat(b, after))
			} else if e != api.OK || used != len(b) || !same(got, n) {
				t.Fatalf("P5.9: tree %d with %d bytes behind it: used %d, error %d", i, len(after), used, e)
			}
		}
	}
}

// noTree expects that no tree is decoded.
func noTree(t *testing.T, b []byte) {
	t.Helper()
	if n, used, e := tree.Decode(b); e != api.ErrForm || used != 0 || !reflect.DeepEqual(n, api.Node{}) {
		t.Errorf("P5.5: Decode of %v: %v, used %d, error %d", b[:min(len(b), 50)], n, used, e)
	}
}

// P5.5: the depth of 24, which the deepest part of the tree has.
func TestDecodeDepth(t *testing.T) {
	for depth := 1; depth <= 40; depth++ {
		for _, n := range []api.Node{chain(depth), node(api.KBlock, 0, node(api.KSkip, 0), chain(max(depth-1, 1)), node(api.KSkip, 0))} {
			if plainDepth(n) > 24 {
				noTree(t, plainEncode(n))
			} else if got, _, e := tree.Decode(plainEncode(n)); e != api.OK || !same(got, n) {
				t.Errorf("P5.5: depth %d: error %d", depth, e)
			}
		}
	}
	noTree(t, plainEncode(chain(1<<16)))
}

// P5.5 and P5.9: encodings that are cut anywhere.
func TestDecodeOfCutEncodings(t *testing.T) {
	for _, n := range append(someTrees(), smallTrees()...) {
		b := plainEncode(n)
		for k := range min(len(b), 500) {
			noTree(t, b[:k])
		}
	}
}

// P5.5: heads that are none, and numbers of kids that cannot be.
func TestDecodeErrors(t *testing.T) {
	leaf := wire.Ints([]int{api.KSkip, 0, 0, 0})
	for _, b := range [][]byte{
		nil,
		{},
		{0},
		{128},
		wire.Int(4),
		wire.Ints(nil),
		wire.Ints([]int{0}),
		wire.Ints([]int{0, 0, 0}),
		wire.Ints([]int{0, 0, 0, 0, 0}),
		wire.Ints([]int{1, 2, 3, 1, 0}),
		wire.Ints([]int{0, 0, 0, -1}),
		wire.Ints([]int{0, 0, 0, math.MinInt}),
		wire.Ints([]int{0, 0, 0, 1}),
		wire.Ints([]int{0, 0, 0, math.MaxInt}),
		slices.Concat(wire.Ints([]int{0, 0, 0, -1}), leaf),
		slices.Concat(wire.Ints([]int{0, 0, 0, 2}), leaf),
		slices.Concat(wire.Ints([]int{0, 0, 0, 3}), leaf, leaf),
		slices.Concat(wire.Ints([]int{0, 0, 0, 1 << 32}), leaf),
		slices.Concat(wire.Ints([]int{0, 0, 0, 2}), leaf, wire.Ints([]int{0, 0, 0, -1}), leaf),
		slices.Concat(wire.Ints([]int{0, 0, 0, 2}), wire.Ints([]int{0, 0, 0, 1}), leaf),
		slices.Concat(wire.Ints([]int{0, 0, 0, 2}), leaf, wire.Ints([]int{0, 0, 0})),
		// 4 is written with a leading zero; 0 is written as 129 0.
		{130, 0, 4, 128, 128, 128, 128},
		{129, 4, 128, 128, 128, 129, 0},
		{129, 4, 128, 118, 128, 128},
		{129, 4, 128, 137, 0, 0, 0, 0, 0, 0, 0, 0, 0, 128, 128},
	} {
		noTree(t, b)
	}
	// The bytes are as many as two kids need, but are none.
	noTree(t, append(wire.Ints([]int{0, 0, 0, 2}), make([]byte, 12)...))
	two := node(api.KInt, 0, node(api.KInt, 0), node(api.KInt, 0))
	if n, used, e := tree.Decode(plainEncode(two)); e != api.OK || used != 19 || !same(n, two) {
		t.Errorf("P5.5: two kids that are as short as can be: %v, used %d, error %d", n, used, e)
	}
}

// P5.5 and P5.9: encodings in which one byte is another one. What is read has the bytes that are used as its encoding.
func TestDecodeOfChangedEncodings(t *testing.T) {
	for _, n := range append(someTrees(), smallTrees()[:100]...) {
		b := plainEncode(n)
		for i := range min(len(b), 150) {
			for _, x := range []byte{0, 1, 2, 118, 119, 126, 127, 128, 129, 130, 136, 137, 255, b[i] + 1, b[i] - 1, b[i] ^ 255} {
				changed := slices.Clone(b)
				changed[i] = x
				again(t, changed)
			}
		}
	}
	r := rand.New(rand.NewSource(6))
	for range 20000 {
		b := make([]byte, r.Intn(40))
		for i := range b {
			b[i] = []byte{129, 4, 128, 128, 128, 129, 1, 2, 127, 130}[r.Intn(10)]
		}
		again(t, b)
	}
}

// again expects that a tree which is read encodes as it was read.
func again(t *testing.T, b []byte) {
	t.Helper()
	n, used, e := tree.Decode(b)
	if e != api.OK {
		noTree(t, b)
	} else if used < 6 || used > len(b) || !slices.Equal(plainEncode(n), b[:used]) || plainDepth(n) > 24 {
		t.Errorf("P5.9: Decode of %v: %v, used %d", b, n, used)
	}
}

// P1: whatever number of kids is claimed, and on how many levels, no memory is reserved for more than the bytes can hold.
func TestDecodeMemoryIsProportional(t *testing.T) {
	const size = 1 << 16
	leaves := slices.Repeat(wire.Ints([]int{0, 0, 0, 0}), size/6)
	for _, claim := range []int{size / 7, size / 6, size, 1 << 30, 1 << 60, math.MaxInt} {
		b := slices.Concat(slices.Repeat(wire.Ints([]int{0, 0, 0, claim}), 23), leaves)
		var before, after runtime.MemStats
		runtime.ReadMemStats(&before)
		noTree(t, b)
		runtime.ReadMemStats(&after)
		if used := after.TotalAlloc - before.TotalAlloc; used > 400*size {
			t.Errorf("P1: Decode of %d bytes that claim %d kids: %d bytes of memory", len(b), claim, used)
		}
	}
}

// P5.9: equal trees, and only they, have equal encodings, and equal digests.
func TestEncodingsOfOthers(t *testing.T) {
	first := map[string]api.Node{}
	digests := map[api.Digest]string{}
	for _, n := range append(someTrees(), smallTrees()...) {
		b := string(tree.Encode(n))
		if m, is := first[b]; is && !same(m, n) {
			t.Errorf("P5.9: %v and %v have one encoding", m, n)
		}
		d := tree.Digest(n)
		if other, is := digests[d]; is && other != b {
			t.Errorf("P5.5: the digest of %v is that of another tree", n)
		}
		first[b], digests[d] = n, b
	}
	if !slices.Equal(tree.Encode(api.Node{Kids: []api.Node{}}), tree.Encode(api.Node{})) {
		t.Error("P5.9: nil and empty Kids are the same")
	}
}

// The example at the end of the chapter.
func TestExample(t *testing.T) {
	n := node(api.KBin, api.Add, node(api.KVar, 0), node(api.KNum, 1))
	if tree.Size(n) != 3 || tree.Depth(n) != 2 {
		t.Errorf("P5.1: size %d, depth %d", tree.Size(n), tree.Depth(n))
	}
	if paths := tree.Paths(n); !slices.EqualFunc(paths, [][]int{{}, {0}, {1}}, slices.Equal) {
		t.Errorf("P5.2: %v", paths)
	}
	m, e := tree.Set(n, []int{1}, node(api.KNum, 2))
	if e != api.OK || !same(m, node(api.KBin, api.Add, node(api.KVar, 0), node(api.KNum, 2))) || tree.Compare(m, n) != 1 || tree.Compare(n, m) != -1 {
		t.Errorf("P5.3: %v, error %d", m, e)
	}
	b := tree.Encode(n)
	if len(b) != 23 {
		t.Errorf("P5.5: %d bytes", len(b))
	}
	if got, used, e := tree.Decode(b); e != api.OK || used != 23 || !same(got, n) {
		t.Errorf("P5.5: %v, used %d, error %d", got, used, e)
	}
	// The digest was calculated outside of the project.
	if tree.Digest(n) != (api.Digest{0xd1, 0x1f, 0x7e, 0x36, 0x4e, 0xd9, 0x10, 0x21, 0xc6, 0x74, 0xb5, 0x8d, 0xb8, 0x36, 0x24, 0xf5}) {
		t.Errorf("P5.5: the digest %v", tree.Digest(n))
	}
}
