package types_test

import (
	"math"
	"math/rand"
	"reflect"
	"slices"
	"testing"

	"scoria/api"
	"scoria/tree"
	"scoria/types"
)

// mark is a node that no tree of the tests has.
func mark() api.Node { return node(-777, -777) }

// roomy is n with room behind all of its Kids, where a careless append would leave its traces.
func roomy(n api.Node) api.Node {
	c := api.Node{Kind: n.Kind, N: n.N, M: n.M, Kids: make([]api.Node, 0, len(n.Kids)+3)}
	for _, kid := range n.Kids {
		c.Kids = append(c.Kids, roomy(kid))
	}
	return c
}

// withRoom is n with all that lies in the room behind its Kids, as kids.
func withRoom(n api.Node) api.Node {
	c := api.Node{Kind: n.Kind, N: n.N, M: n.M}
	for _, kid := range n.Kids[:cap(n.Kids)] {
		c.Kids = append(c.Kids, withRoom(kid))
	}
	return c
}

// spoil changes all that can be changed of a tree, also the room behind its Kids.
func spoil(n api.Node) {
	kids := n.Kids[:cap(n.Kids)]
	for i := range kids {
		spoil(kids[i])
		kids[i] = mark()
	}
}

// spoilList changes a list, also the room behind it.
func spoilList(l []int) {
	for i := range l[:cap(l)] {
		l[:cap(l)][i] = -777
	}
}

// Rules: arguments are not changed.
func TestArgumentsStay(t *testing.T) {
	r := rand.New(rand.NewSource(78))
	for i := range 200 {
		p, x := roomy(anyProgram(r, i%2 == 0)), roomy(someExpressions()[i%len(someExpressions())])
		beforeP, beforeX := withRoom(p), withRoom(x)
		types.Check(p)
		types.Check(x)
		types.Words(p)
		types.Words(x)
		for f := range p.Kids {
			types.Of(p, f, x)
			for _, y := range p.Kids[f].Kids {
				types.Words(y)
			}
		}
		if !reflect.DeepEqual(withRoom(p), beforeP) || !reflect.DeepEqual(withRoom(x), beforeX) {
			t.Fatalf("Rules: the program %v or the expression %v has changed", p, x)
		}
	}
}

// Rules: results share no memory with arguments or with each other.
func TestResultsShareNothing(t *testing.T) {
	r := rand.New(rand.NewSource(79))
	for range 100 {
		p := roomy(anyProgram(r, true))
		want, e := plainCheck(p)
		one, _ := types.Check(p)
		two, _ := types.Check(p)
		before := withRoom(p)
		spoilList(one)
		if three, f := types.Check(p); f != e || !slices.Equal(two, want) || !slices.Equal(three, want) || !reflect.DeepEqual(withRoom(p), before) {
			t.Fatalf("Rules: places of %v share memory", p)
		}
		spoil(p)
		if !slices.Equal(two, want) {
			t.Fatalf("Rules: the place %v shares memory with the program", want)
		}
	}
	p := roomy(scene(t, "skip"))
	for _, x := range someExpressions() {
		x = roomy(x)
		beforeP, beforeX := withRoom(p), withRoom(x)
		got, _ := types.Of(p, 1, x)
		again, e := types.Of(p, 1, x)
		spoil(got)
		_ = append(got.Kids, mark())
		want, f := plainOf(p, 1, x)
		if e != f || again.Kind != want.Kind || len(again.Kids) > 0 || !reflect.DeepEqual(withRoom(p), beforeP) || !reflect.DeepEqual(withRoom(x), beforeX) {
			t.Fatalf("Rules: the type of %v shares memory", x)
		}
	}
}

// anyTree is a tree of any numbers.
func anyTree(r *rand.Rand, depth int) api.Node {
	numbers := []int{math.MinInt, -8, -1, 0, 1, 2, 3, 5, 6, 13, 14, math.MaxInt}
	pick := func() int { return numbers[r.Intn(len(numbers))] }
	n := api.Node{Kind: r.Intn(api.Kinds+2) - 1, N: pick(), M: pick()}
	if r.Intn(2) == 0 {
		n.Kids = []api.Node{}
	}
	if depth > 1 {
		for range r.Intn(4) {
			n.Kids = append(n.Kids, anyTree(r, r.Intn(depth-1)+1))
		}
	}
	return n
}

// P1, Rules: every function returns for any trees, also in programs in the place of parts; equal calls have equal results.
func TestAnyTrees(t *testing.T) {
	r := rand.New(rand.NewSource(80))
	for range 3000 {
		n := anyTree(r, 5)
		p := anyProgram(r, true)
		paths := tree.Paths(p)
		q := with(t, p, paths[r.Intn(len(paths))], n)
		for _, x := range []api.Node{n, p, q} {
			path, e := types.Check(x)
			again, f := types.Check(copyOf(x))
			if e != f || !slices.Equal(path, again) || types.Words(x) != types.Words(copyOf(x)) {
				t.Fatalf("Rules: equal calls have other results")
			}
			if (e == api.ErrForm) == tree.Valid(x) || e == api.ErrForm && len(path) > 0 {
				t.Fatalf("P7.1: %v %d for %v", path, e, x)
			}
			types.Of(x, r.Intn(8)-1, n)
			types.Of(p, r.Intn(8)-1, x)
		}
	}
}
