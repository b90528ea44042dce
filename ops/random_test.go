package ops_test

import (
	"math"
	"math/rand"
	"slices"
	"strings"

	"scoria/api"
	"scoria/ops"
	"scoria/text"
	"scoria/tree"
	"scoria/types"
)

// anyTree is a tree of a few kinds and numbers, many of which are equal.
func anyTree(r *rand.Rand, depth int) api.Node {
	n := withM([]int{api.KNum, api.KVar, api.KBin, api.KNot, api.KIf}[r.Intn(5)], r.Intn(3), r.Intn(12)/11)
	if r.Intn(12) == 0 {
		n.Kind, n.N = []int{-1, api.KAny, api.KAny, api.KCond}[r.Intn(4)], []int{-1, 0, 1, 8}[r.Intn(4)]
	}
	if r.Intn(12) == 0 {
		n.N = api.AnyN
	}
	if depth > 1 {
		for range r.Intn(4) {
			n.Kids = append(n.Kids, anyTree(r, depth-1))
		}
	}
	return n
}

// anyPattern is a tree with some KAny in it, most of which are as operators have them.
func anyPattern(r *rand.Rand, depth int) api.Node {
	n := anyTree(r, 1)
	if r.Intn(3) == 0 {
		n = hole([]int{0, 0, 0, 1, 1, 2, 7}[r.Intn(7)])
		if r.Intn(12) == 0 {
			n = withM(api.KAny, r.Intn(12)-2, r.Intn(2), anyTree(r, 2))
		}
		return n
	}
	if depth > 1 {
		for range r.Intn(4) {
			n.Kids = append(n.Kids, anyPattern(r, depth-1))
		}
	}
	return n
}

// instance is a tree that a pattern matches, if it can match any.
func instance(r *rand.Rand, pattern api.Node) api.Node {
	stands := map[int]api.Node{}
	var fill func(p api.Node) api.Node
	fill = func(p api.Node) api.Node {
		if p.Kind == api.KAny {
			if _, ok := stands[p.N]; !ok {
				stands[p.N] = anyTree(r, 3)
			}
			return stands[p.N]
		}
		x := withM(p.Kind, p.N, p.M)
		for _, kid := range p.Kids {
			x.Kids = append(x.Kids, fill(kid))
		}
		return x
	}
	x := fill(pattern)
	if x.N == api.AnyN {
		x.N = r.Intn(3)
	}
	return copyOf(x)
}

// changed is a tree with one node that is another one, or has other numbers.
func changed(r *rand.Rand, n api.Node) api.Node {
	paths := tree.Paths(n)
	path := paths[r.Intn(len(paths))]
	x, _ := tree.At(n, path)
	switch r.Intn(6) {
	case 0:
		x = anyTree(r, 2)
	case 1:
		x.Kind = r.Intn(api.Kinds+2) - 1
	case 2:
		x.N = r.Intn(4) - 1
	case 3:
		x.M = 1 - x.M
	case 4:
		x.Kids = append(x.Kids, anyTree(r, 1))
	case 5:
		x.Kids = x.Kids[:max(0, len(x.Kids)-1)]
	}
	y, _ := tree.Set(n, path, x)
	return y
}

// anyName is a name of small letters, which seldom is too long.
func anyName(r *rand.Rand) string {
	return strings.Repeat(string(rune('a'+r.Intn(26))), 1+r.Intn(16)+r.Intn(20)/19)
}

// sound is a pattern without what no operator may have: KAny of other numbers, or as a root; AnyN below the root; kinds beyond KAny.
func sound(r *rand.Rand, depth int) api.Node {
	var mend func(n *api.Node, isRoot bool)
	mend = func(n *api.Node, isRoot bool) {
		if n.Kind < 0 || n.Kind > api.KAny || isRoot && n.Kind == api.KAny {
			n.Kind = api.KBlock
		}
		if n.Kind == api.KAny {
			*n = hole(n.N & 7)
		}
		if n.N == api.AnyN && !isRoot {
			n.N = 1
		}
		for i := range n.Kids {
			mend(&n.Kids[i], false)
		}
	}
	n := anyPattern(r, depth)
	mend(&n, true)
	return n
}

// anyOp is an operator, which often is valid, and often is wrong in one thing only.
func anyOp(r *rand.Rand) api.Op {
	o := api.Op{Name: anyName(r), Find: sound(r, 3), Back: r.Intn(25) - 1}
	if r.Intn(2) == 0 {
		o.Find.N = api.AnyN
	}
	var holes []api.Node
	for _, x := range plainNodes(o.Find) {
		if x.Kind == api.KAny {
			holes = append(holes, x)
		}
	}
	var mend func(n *api.Node)
	mend = func(n *api.Node) {
		if n.Kind == api.KAny || len(n.Kids) == 0 && r.Intn(3) == 0 {
			*n = num(1)
			if len(holes) > 0 {
				*n = holes[r.Intn(len(holes))]
			}
		}
		if o.Find.N == api.AnyN && n.Kind != api.KAny && r.Intn(3) == 0 {
			n.N = api.AnyN
		} else if n.N == api.AnyN && o.Find.N != api.AnyN {
			n.N = 0
		}
		for i := range n.Kids {
			mend(&n.Kids[i])
		}
	}
	o.Put = sound(r, 3)
	mend(&o.Put)
	switch r.Intn(16) {
	case 0:
		o.Name += []string{"A", "z", "`", "{", "\x00", "\u00e9"}[r.Intn(6)]
	case 1, 2, 3:
		o.Find = changed(r, o.Find)
	case 4, 5, 6:
		o.Put = changed(r, o.Put)
	case 7:
		o.Back += r.Intn(6) - 3
	case 8:
		o.Find = anyPattern(r, 4)
	case 9:
		o.Put = anyPattern(r, 4)
	case 10:
		o.Put = copyOf(o.Find)
	}
	return o
}

// someOps are operators, of which some are not valid and some are equal.
func someOps(r *rand.Rand) []api.Op {
	var l []api.Op
	for range r.Intn(6) {
		l = append(l, anyOp(r))
	}
	for range r.Intn(8) {
		l = append(l, ops.Standard()[r.Intn(24)])
	}
	return l
}

// grower grows a program. Each of its functions has up to two parameters, which are words, and behind them a word, a truth value, an array and a record of a word and a truth value. Numbers, conditions and indices that operators look for are frequent.
type grower struct {
	r     *rand.Rand
	chans int
	funs  []int // how many parameters they have
	f     int
}

// anyProgram is a program in which nothing is wrong.
func anyProgram(r *rand.Rand) api.Node {
	for {
		g := &grower{r: r, chans: r.Intn(4)}
		for range 1 + r.Intn(4) {
			g.funs = append(g.funs, r.Intn(3))
		}
		p := node(api.KProg, g.chans)
		for f, params := range g.funs {
			g.f = f
			truth, word := node(api.KBool, 0), node(api.KInt, 0)
			kids := slices.Repeat([]api.Node{word}, params+1)
			kids = append(kids, truth, node(api.KArr, 3), node(api.KRec, 0, word, truth), g.block(2))
			p.Kids = append(p.Kids, node(api.KFun, params, kids...))
		}
		if _, e := types.Check(p); e == api.OK {
			return copyOf(p)
		}
	}
}

// v is the number of one of the variables that every function has.
func (g *grower) v(i int) int { return g.funs[g.f] + i }

// args has arguments for a function.
func (g *grower) args(f, depth int) []api.Node {
	var l []api.Node
	for range g.funs[f] {
		l = append(l, g.word(depth))
	}
	return l
}

// word is an expression that is a word.
func (g *grower) word(depth int) api.Node {
	kind := g.r.Intn(10)
	if depth <= 0 {
		kind = g.r.Intn(4)
	}
	switch kind {
	case 0, 1:
		return num([]int{0, 1, 0, 1, g.r.Intn(16) - 8}[g.r.Intn(5)])
	case 2:
		return v(g.r.Intn(g.funs[g.f] + 1))
	case 3:
		if g.chans > 0 && g.r.Intn(2) == 0 {
			return node(api.KRecv, g.r.Intn(g.chans))
		}
		return node(api.KField, g.v(3))
	case 4, 5:
		index := g.word(0)
		if g.r.Intn(2) == 0 {
			index = bin(api.Add, index, num(1))
		}
		return node(api.KElem, g.v(2), index)
	case 6:
		f := g.r.Intn(len(g.funs))
		return node(api.KCall, f, g.args(f, depth-1)...)
	}
	return bin(g.r.Intn(api.Less), g.word(depth-1), g.word(depth-1))
}

// truth is an expression that is a truth value.
func (g *grower) truth(depth int) api.Node {
	kind := g.r.Intn(6)
	if depth <= 0 {
		kind = g.r.Intn(3)
	}
	switch kind {
	case 0:
		return v(g.v(1))
	case 1:
		return withM(api.KField, g.v(3), 1)
	case 2:
		return node(api.KTruth, g.r.Intn(2))
	case 3:
		return not(g.truth(depth - 1))
	case 4:
		return bin(api.Both+g.r.Intn(2), g.truth(depth-1), g.truth(depth-1))
	}
	return bin(api.Less+g.r.Intn(2), g.word(depth-1), g.word(depth-1))
}

func (g *grower) block(depth int) api.Node {
	b := block()
	for range g.r.Intn(4) {
		b.Kids = append(b.Kids, g.statement(depth-1))
	}
	return b
}

// statement is a statement; blocks in it are the less deep the less depth there is.
func (g *grower) statement(depth int) api.Node {
	kind := g.r.Intn(15)
	if depth < 0 {
		kind = g.r.Intn(10)
	}
	f := g.r.Intn(len(g.funs))
	switch kind {
	case 0:
		return node(api.KSet, g.r.Intn(g.funs[g.f]+1), g.word(2))
	case 1:
		return node(api.KSet, g.v(1), g.truth(2))
	case 2:
		return node(api.KPut, g.v(2), g.word(0), g.word(1))
	case 3:
		return node(api.KFill, g.v(3), g.word(1))
	case 4:
		return withM(api.KFill, g.v(3), 1, g.truth(1))
	case 5, 6:
		return node(api.KOut, 0, g.word(2))
	case 7:
		return node(api.KSpawn, f, g.args(f, 1)...)
	case 8:
		if g.chans > 0 {
			return node(api.KSend, g.r.Intn(g.chans), g.word(1))
		}
		return node(api.KSkip, 0)
	case 9:
		return node([]int{api.KThrow, api.KReturn}[g.r.Intn(2)], 0, g.word(2))
	case 10, 11, 12:
		return node(api.KIf, 0, g.truth(2), g.block(depth), g.block(depth))
	case 13:
		return node(api.KWhile, 0, g.truth(2), g.block(depth))
	}
	return node(api.KTry, g.v(0), g.block(depth), g.block(depth))
}

// parse is the program of a text, which is one.
func parse(s string) api.Node {
	p, wrong := text.Parse(s)
	if wrong != -1 {
		panic("this is no program: " + s)
	}
	return p
}

// edgeNumbers are numbers for any argument that is one.
var edgeNumbers = []int{math.MinInt, -1 << 32, api.AnyN - 1, api.AnyN, api.AnyN + 1, -2, -1, 0, 1, 7, 8, 23, 24, api.KAny - 1, api.KAny, api.KAny + 1, 1 << 32, math.MaxInt}

// anyNumbers is a tree of any numbers.
func anyNumbers(r *rand.Rand, depth int) api.Node {
	pick := func() int { return edgeNumbers[r.Intn(len(edgeNumbers))] }
	n := withM(pick(), pick(), pick())
	if r.Intn(2) == 0 {
		n.Kids = []api.Node{}
	}
	if depth > 1 {
		for range r.Intn(4) {
			n.Kids = append(n.Kids, anyNumbers(r, depth-1))
		}
	}
	return n
}
