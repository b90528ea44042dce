package compile_test

import (
	"math"
	"math/rand"
	"reflect"
	"slices"
	"testing"

	"scoria/api"
	"scoria/compile"
	"scoria/tree"
)

// mark is a node that no tree of the tests has.
func mark() api.Node { return node(-777, -777) }

// roomy is n with room behind all of its Kids, where a careless append would leave its traces.
func roomy(n api.Node) api.Node {
	c := field(n.Kind, n.N, n.M)
	c.Kids = make([]api.Node, 0, len(n.Kids)+3)
	for _, kid := range n.Kids {
		c.Kids = append(c.Kids, roomy(kid))
	}
	return c
}

// withRoom is n with all that lies in the room behind its Kids, as kids.
func withRoom(n api.Node) api.Node {
	c := field(n.Kind, n.N, n.M)
	for _, kid := range n.Kids[:cap(n.Kids)] {
		c.Kids = append(c.Kids, withRoom(kid))
	}
	return c
}

// spoil changes all that can be changed of a tree, also the room behind its Kids.
func spoil(n api.Node) {
	kids := n.Kids[:cap(n.Kids)]
	for i := range kids {
		spoil(kids[i])
		kids[i] = mark()
	}
}

// spoilFun changes all that can be changed of the code of a function, also the room behind its lists.
func spoilFun(f api.FunCode) {
	for i := range f.Body[:cap(f.Body)] {
		f.Body[:cap(f.Body)][i] = api.Instr{Op: -777, A: -777, B: -777}
	}
	for i := range f.From[:cap(f.From)] {
		f.From[:cap(f.From)][i] = -777
	}
}

// someTrees are trees that are folded, and programs.
func someTrees(r *rand.Rand) []api.Node {
	var l []api.Node
	for i := range 300 {
		l = append(l, anyFoldable(r, 2+r.Intn(5)), anyProgram(r, i%3 == 0))
	}
	return l
}

// Rules: arguments are not changed.
func TestArgumentsStay(t *testing.T) {
	for _, e := range someTrees(rand.New(rand.NewSource(901))) {
		e = roomy(e)
		before := withRoom(e)
		compile.Fold(e)
		compile.Prog(e)
		for f := -1; f <= len(e.Kids); f++ {
			compile.Fun(e, f)
		}
		if !reflect.DeepEqual(withRoom(e), before) {
			t.Fatalf("Rules: the tree %v has changed", e)
		}
	}
}

// Rules: folded trees share no memory with arguments or with each other, nor do their parts.
func TestFoldedShareNothing(t *testing.T) {
	for _, e := range someTrees(rand.New(rand.NewSource(902))) {
		e = roomy(e)
		before, want := withRoom(e), plainFold(e)
		one, two := compile.Fold(e), compile.Fold(e)
		spoil(one)
		if !same(two, want) || !same(compile.Fold(e), want) || !reflect.DeepEqual(withRoom(e), before) {
			t.Fatalf("Rules: the folded tree of %v shares memory", e)
		}
		expectApart(t, two)
		two = compile.Fold(e)
		spoil(e)
		if !same(two, want) {
			t.Fatalf("Rules: the folded tree shares memory with %v", before)
		}
	}
	// Kids that share their memory in an argument do not share it in the result.
	l := []api.Node{out(1), skip(), bin(api.Add, num(1), v(0))}
	for _, e := range []api.Node{
		block(while(v(0), block(l...)), while(v(0), block(l...))), cond(v(0), block(l...), block(l...)), node(99, 0, node(98, 0, l...), node(98, 0, l...)), block(block(l...), block(l...), l[0], l[0]), bin(api.Add, not(v(0)), not(v(0))), block(slices.Repeat(l, 3)...), node(99, 0, cond(truth(1), l[0], l[2]), l[0], l[2], l[2]),
	} {
		expectApart(t, compile.Fold(e))
	}
}

// expectApart expects that no two nodes of a tree share memory, with all room behind their Kids. It spoils what is below the root.
func expectApart(t *testing.T, n api.Node) {
	t.Helper()
	for i, kid := range n.Kids {
		rest := copyOf(node(0, 0, n.Kids[i+1:]...))
		expectApart(t, kid)
		spoil(kid)
		if !same(node(0, 0, n.Kids[i+1:]...), rest) {
			t.Fatalf("Rules: parts of the tree %v share memory", n)
		}
	}
}

// Rules: code shares no memory with arguments or with other code.
func TestCodeSharesNothing(t *testing.T) {
	r := rand.New(rand.NewSource(903))
	for range 200 {
		p := roomy(anyProgram(r, false))
		before := withRoom(p)
		var want []api.FunCode
		for f := range p.Kids {
			want = append(want, plainFun(p, f))
		}
		c, _ := compile.Prog(p)
		d, _ := compile.Prog(p)
		for i, f := range c.Funs {
			g, _ := compile.Fun(p, i)
			spoilFun(f)
			c.Funs[i] = api.FunCode{Params: -777}
			if !slices.EqualFunc(c.Funs[i+1:], want[i+1:], sameFun) || !slices.EqualFunc(d.Funs, want, sameFun) || !sameFun(g, want[i]) {
				t.Fatalf("Rules: codes of functions share memory: %v", p)
			}
			h, _ := compile.Fun(p, i)
			spoilFun(h)
			if again, _ := compile.Fun(p, i); !sameFun(again, want[i]) || !sameFun(g, want[i]) || !sameFun(d.Funs[i], want[i]) {
				t.Fatalf("Rules: codes of functions share memory: %v", p)
			}
		}
		if again, _ := compile.Prog(p); !slices.EqualFunc(again.Funs, want, sameFun) || !reflect.DeepEqual(withRoom(p), before) {
			t.Fatalf("Rules: code shares memory with %v", p)
		}
		spoil(p)
		if !slices.EqualFunc(d.Funs, want, sameFun) {
			t.Fatalf("Rules: code shares memory with the program")
		}
	}
}

// anyTree is a tree of any numbers.
func anyTree(r *rand.Rand, depth int) api.Node {
	numbers := []int{math.MinInt, -8, -1, 0, 0, 0, 1, 1, 2, 3, 5, 12, 13, 14, math.MaxInt}
	pick := func() int { return numbers[r.Intn(len(numbers))] }
	n := field(r.Intn(api.Kinds+2)-1, pick(), pick()*r.Intn(2))
	if r.Intn(2) == 0 {
		n.Kids = []api.Node{}
	}
	if depth > 1 {
		for range r.Intn(4) {
			n.Kids = append(n.Kids, anyTree(r, r.Intn(depth-1)+1))
		}
	}
	return n
}

// P1, Rules: every function returns for any trees, also in programs in the place of parts; equal calls have equal results.
func TestAnyTrees(t *testing.T) {
	r := rand.New(rand.NewSource(904))
	for range 3000 {
		n := anyTree(r, 5)
		p := anyProgram(r, r.Intn(2) == 0)
		paths := tree.Paths(p)
		q, _ := tree.Set(p, paths[r.Intn(len(paths))], n)
		for _, x := range []api.Node{n, q} {
			expectFold(t, x)
			expectCode(t, x)
			expectAgain(t, x)
			if !same(compile.Fold(x), compile.Fold(copyOf(x))) {
				t.Fatalf("Rules: equal calls have other results")
			}
		}
	}
	for _, f := range []int{math.MinInt, -1, 0, 1, math.MaxInt} {
		deep := chain(1<<16, skip(), func(n api.Node) api.Node { return node(api.KProg, 0, n) })
		wide := node(api.KProg, 0, slices.Repeat([]api.Node{node(api.KFun, 0, block())}, 1<<16)...)
		for _, x := range []api.Node{deep, wide} {
			if got, e := compile.Fun(x, f); e != api.ErrForm || !isZero(got) {
				t.Errorf("P9.2: %v %d", got, e)
			}
			if got, e := compile.Prog(x); e != api.ErrForm || len(got.Funs) > 0 {
				t.Errorf("P9.3: %v %d", got, e)
			}
		}
	}
}
