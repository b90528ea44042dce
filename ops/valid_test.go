package ops_test

import (
	"math/rand"
	"slices"
	"strings"
	"testing"

	"scoria/api"
	"scoria/ops"
)

// good is a valid operator.
func good() api.Op {
	return api.Op{Name: "x", Find: not(hole(7)), Put: hole(7), Back: -1}
}

// P14.1: names.
func TestValidNames(t *testing.T) {
	for _, x := range []struct {
		name string
		want bool
	}{
		{"", false}, {"a", true}, {"z", true}, {"plus", true}, {"abcdefghijklmnop", true}, {"qrstuvwxyz", true},
		{strings.Repeat("z", 16), true}, {strings.Repeat("z", 17), false}, {strings.Repeat("a", 1000), false},
		{"`", false}, {"{", false}, {"a`", false}, {"{a", false}, {"ab`cd", false}, {"ab{cd", false},
		{"A", false}, {"Z", false}, {"aB", false}, {"Ba", false}, {"plUs", false}, {strings.Repeat("z", 15) + "Z", false}, {"Z" + strings.Repeat("z", 15), false},
		{"0", false}, {"a1", false}, {"a b", false}, {" ", false}, {"a\n", false}, {"\x00", false}, {"a-b", false}, {"a_b", false},
		{"\u00e9", false}, {"caf\u00e9", false}, {"\xff", false}, {"a\x80", false}, {"\xe1", false}, {"\u0161", false}, {"\u4e61", false}, {strings.Repeat("\u00e9", 8), false},
	} {
		o := good()
		o.Name = x.name
		expectValid(t, o, x.want, "the name")
	}
	for b := range 256 {
		letter := b >= 97 && b <= 122
		for _, name := range []string{string([]byte{byte(b)}), "a" + string([]byte{byte(b)}), string([]byte{byte(b)}) + "a"} {
			o := good()
			o.Name = name
			expectValid(t, o, letter, "a byte of the name")
		}
	}
}

// P14.1: how many nodes there are, and how deep they are.
func TestValidSizes(t *testing.T) {
	wide := func(nodes int) api.Node { return block(slices.Repeat([]api.Node{num(1)}, nodes-1)...) }
	// comb has its nodes on several levels, and the last one of each level has the next ones.
	comb := func(nodes, depth int) api.Node {
		n := block(slices.Repeat([]api.Node{num(1)}, nodes-depth)...)
		for range depth - 3 {
			n = block(n)
		}
		return block(n, num(2))
	}
	for _, x := range []struct {
		n    api.Node
		want bool
	}{
		{wide(1), true}, {wide(2), true}, {wide(31), true}, {wide(32), true}, {wide(33), false}, {wide(34), false}, {wide(5000), false},
		{block(block(wide(10)), wide(20)), true}, {block(block(wide(10)), wide(21)), false}, {block(wide(21), block(wide(10))), false}, {block(wide(16), wide(15)), true}, {block(wide(16), wide(16)), false},
		{chain(7, num(1)), true}, {chain(8, num(1)), true}, {chain(9, num(1)), false}, {chain(10, num(1)), false}, {chain(1000, num(1)), false},
		{block(num(1), chain(7, num(1))), true}, {block(num(1), chain(8, num(1))), false}, {block(chain(8, num(1)), num(1)), false}, {block(chain(7, num(1)), chain(7, num(1)), chain(7, num(1))), true}, {block(chain(7, num(1)), chain(8, num(1)), chain(7, num(1))), false},
		{comb(32, 7), true}, {comb(32, 8), true}, {comb(33, 7), false}, {comb(33, 8), false}, {comb(20, 8), true}, {comb(20, 9), false},
	} {
		o := good()
		o.Put = x.n
		expectValid(t, o, x.want, "the size or the depth of Put")
		o.Find, o.Put = x.n, num(1)
		expectValid(t, o, x.want, "the size or the depth of Find")
		o.Put = x.n
		expectValid(t, o, x.want, "the size or the depth of both")
	}
	// As many nodes as there can be are allowed for each of both.
	o := good()
	o.Find, o.Put = wide(32), wide(32)
	expectValid(t, o, true, "64 nodes together")
	o.Find, o.Put = chain(8, hole(3)), chain(8, hole(3))
	expectValid(t, o, true, "a KAny at the depth 8")
	o.Put = chain(9, hole(3))
	expectValid(t, o, false, "a KAny at the depth 9")
}

// P14.1: kinds, at the root and below.
func TestValidKinds(t *testing.T) {
	for kind := -3; kind < api.Kinds+3; kind++ {
		if kind == api.KAny {
			continue
		}
		want := kind >= 0 && kind <= 27
		x := node(kind, 0, hole(7))
		for _, change := range []func(o *api.Op){
			func(o *api.Op) { o.Find = x },
			func(o *api.Op) { o.Put = x },
			func(o *api.Op) { o.Find = not(x) },
			func(o *api.Op) { o.Put = not(x) },
			func(o *api.Op) { o.Find = block(hole(7), not(node(kind, 5)), num(1)) },
			func(o *api.Op) { o.Put = block(hole(7), num(1), not(node(kind, 5))) },
		} {
			o := good()
			change(&o)
			expectValid(t, o, want, "the kind")
		}
	}
	for _, kind := range edgeNumbers {
		o := good()
		o.Find = not(block(hole(7), node(kind, 7)))
		expectValid(t, o, kind >= 0 && kind <= 28, "any kind in Find")
		o = good()
		o.Put = not(node(kind, 7))
		expectValid(t, o, kind >= 0 && kind <= 28, "any kind in Put")
	}
}

// P14.1: N and M of nodes that are no KAny do not matter, but for AnyN.
func TestValidNumbers(t *testing.T) {
	for _, n := range edgeNumbers {
		for _, m := range edgeNumbers {
			o := good()
			o.Find = withM(api.KNot, n, m, hole(7))
			expectValid(t, o, true, "N and M of the root of Find")
			o.Find = block(hole(7), withM(api.KNum, n, m))
			expectValid(t, o, n != -100, "N and M of a node of Find")
			o = good()
			o.Put = withM(api.KNum, n, m)
			expectValid(t, o, n != -100, "N and M of the root of Put")
			o.Put = not(withM(api.KNum, n, m))
			expectValid(t, o, n != -100, "N and M of a node of Put")
		}
	}
}

// P14.1: KAny.
func TestValidHoles(t *testing.T) {
	for number := -3; number < 12; number++ {
		inside := number >= 0 && number <= 7
		for _, h := range []struct {
			n    api.Node
			want bool
		}{
			{hole(number), inside},
			{withM(api.KAny, number, 1), false},
			{withM(api.KAny, number, -1), false},
			{withM(api.KAny, number, api.AnyN), false},
			{node(api.KAny, number, num(1)), false},
			{node(api.KAny, number, hole(0)), false},
			{withM(api.KAny, number, 1, num(1)), false},
			{api.Node{Kind: api.KAny, N: number, Kids: []api.Node{}}, inside},
		} {
			o := good()
			o.Find, o.Put = not(h.n), num(1)
			expectValid(t, o, h.want, "a KAny in Find")
			o.Find = node(api.KCall, 2, not(not(h.n)), hole(1))
			expectValid(t, o, h.want, "a KAny below in Find")
			o.Put = h.n
			expectValid(t, o, h.want, "a KAny in Find, that Put is as well")
			o.Put = block(num(1), not(h.n), hole(1))
			expectValid(t, o, h.want, "a KAny in Find and in Put")
			o.Find, o.Put = block(slices.Repeat([]api.Node{hole(number)}, 3)...), block(num(1), not(h.n))
			expectValid(t, o, h.want, "a KAny in Put that is not as in Find")
			o.Find = block(hole((number + 1) & 7))
			expectValid(t, o, false, "a KAny in Put that Find lacks")
			o.Find, o.Put = h.n, num(1)
			expectValid(t, o, false, "Find is a KAny")
			o.Put = h.n
			expectValid(t, o, false, "Find and Put are a KAny")
		}
	}
	all := func(numbers ...int) api.Node {
		n := block()
		for _, number := range numbers {
			n.Kids = append(n.Kids, hole(number))
		}
		return n
	}
	for _, x := range []struct {
		find, put []int
		want      bool
	}{
		{nil, nil, true}, {nil, []int{0}, false}, {[]int{0}, nil, true}, {[]int{0}, []int{0, 0, 0}, true}, {[]int{3, 3}, []int{3}, true},
		{[]int{0, 1, 2, 3, 4, 5, 6, 7}, []int{7, 6, 5, 4, 3, 2, 1, 0}, true}, {[]int{7, 5}, []int{5, 7}, true}, {[]int{7, 5}, []int{5, 6, 7}, false}, {[]int{1, 2}, []int{0}, false}, {[]int{1}, []int{1, 0}, false},
		{[]int{0, 1, 2, 3, 4, 5, 6}, []int{0, 1, 2, 3, 4, 5, 6, 7}, false}, {[]int{1, 2, 3, 4, 5, 6, 7}, []int{0, 1, 2, 3, 4, 5, 6, 7}, false},
	} {
		o := good()
		o.Find, o.Put = all(x.find...), all(x.put...)
		expectValid(t, o, x.want, "the numbers")
		o.Find, o.Put = block(all(x.find...), num(1)), block(num(1), all(x.put...))
		expectValid(t, o, x.want, "the numbers below")
	}
}

// P14.1: AnyN.
func TestValidAnyN(t *testing.T) {
	free := node(api.KVar, api.AnyN)
	root := node(api.KElem, api.AnyN, hole(0))
	for _, x := range []struct {
		find, put api.Node
		want      bool
	}{
		{root, num(1), true}, {root, hole(0), true}, {free, num(1), true}, {free, free, true}, {node(api.KInt, api.AnyN), num(0), true},
		{root, root, true}, {root, free, true}, {root, not(free), true}, {root, block(free, num(1), free, not(root)), true}, {root, node(api.KBlock, api.AnyN, free, free), true},
		{not(hole(0)), free, false}, {not(hole(0)), not(free), false}, {not(hole(0)), block(hole(0), num(1), not(free)), false}, {not(hole(0)), root, false},
		{not(free), num(1), false}, {not(free), free, false}, {not(not(free)), num(1), false}, {block(num(1), hole(0), free), hole(0), false}, {block(free, num(1)), num(1), false},
		{node(api.KElem, api.AnyN, free), num(1), false}, {node(api.KElem, api.AnyN, free), free, false}, {node(api.KElem, api.AnyN, num(1), not(free)), num(1), false},
		{hole(api.AnyN), num(1), false}, {not(hole(api.AnyN)), num(1), false}, {root, hole(api.AnyN), false}, {root, not(hole(api.AnyN)), false}, {node(api.KElem, api.AnyN, hole(api.AnyN)), hole(api.AnyN), false}, {not(hole(0)), hole(api.AnyN), false},
		{withM(api.KElem, api.AnyN, api.AnyN), num(1), true}, {withM(api.KElem, 0, api.AnyN), withM(api.KNum, 1, api.AnyN), true}, {withM(api.KElem, 0, api.AnyN), num(api.AnyN), false},
		{node(api.KElem, api.AnyN+1), num(api.AnyN), false}, {node(api.KElem, -100, num(-99), num(-101)), num(-100), true},
	} {
		o := good()
		o.Find, o.Put = x.find, x.put
		expectValid(t, o, x.want, "AnyN")
	}
}

// P14.1: Back.
func TestValidBack(t *testing.T) {
	for _, back := range slices.Concat(edgeNumbers, []int{-3, -2, -1, 0, 1, 12, 22, 23, 24, 25}) {
		o := good()
		o.Back = back
		expectValid(t, o, back >= -1 && back <= 23, "Back")
	}
}

// P14.1: operators of any parts, right and wrong.
func TestValidRandom(t *testing.T) {
	r := rand.New(rand.NewSource(141))
	count := map[bool]int{}
	for range 60000 {
		o := anyOp(r)
		want := plainValid(o)
		count[want]++
		expectValid(t, o, want, "random")
	}
	if count[true] < 10000 || count[false] < 10000 {
		t.Errorf("only %d operators are valid, and %d are not", count[true], count[false])
	}
	for range 3000 {
		o := api.Op{Name: "x", Find: anyNumbers(r, 3), Put: anyNumbers(r, 3), Back: edgeNumbers[r.Intn(len(edgeNumbers))]}
		expectValid(t, o, plainValid(o), "any numbers")
	}
}

// P1, P14.1: trees that are far too large, or even contain themselves, are refused at their first nodes.
func TestValidEnds(t *testing.T) {
	self := block(num(1), num(1))
	self.Kids[1] = self
	alone := not(num(1))
	alone.Kids[0] = alone
	wide := block(slices.Repeat([]api.Node{num(1)}, 1<<20)...)
	for _, x := range []api.Node{self, alone, wide, chain(1<<16, num(1))} {
		for _, o := range []api.Op{
			{Name: "x", Find: x, Put: num(1), Back: -1},
			{Name: "x", Find: num(1), Put: x, Back: -1},
		} {
			if ops.Valid(o) {
				t.Error("P14.1: a large tree is valid")
			}
			if _, ok := ops.Apply(o, num(1)); ok {
				t.Error("P14.3: an operator with a large tree changes a node")
			}
			if l := ops.Sites(block(num(1), num(1)), []api.Op{o}); len(l) > 0 {
				t.Errorf("P14.4: an operator with a large tree has sites: %v", l)
			}
		}
	}
}
