package tree_test

import (
	"math"
	"math/rand"
	"slices"
	"strconv"
	"testing"

	"scoria/api"
	"scoria/tree"
)

// The sorts of kinds that the chapter names.
var (
	scalars     = []int{api.KInt, api.KBool}
	allTypes    = []int{api.KInt, api.KBool, api.KArr, api.KRec}
	expressions = []int{api.KNum, api.KTruth, api.KVar, api.KElem, api.KField, api.KBin, api.KNot, api.KCall, api.KRecv}
	statements  = []int{api.KBlock, api.KSet, api.KPut, api.KFill, api.KIf, api.KWhile, api.KReturn, api.KThrow, api.KTry, api.KSend, api.KSpawn, api.KOut, api.KSkip}
	blocks      = []int{api.KBlock}
)

// row is a row of the chapter's table, but that for KFun: the bounds of N and M, and which kids may stand where, for each number of kids that there may be.
type row struct {
	kind       int
	minN, maxN int
	maxM       int
	kids       [][][]int
}

// upTo has lists of from least to most kids of one sort.
func upTo(least, most int, sort []int) [][][]int {
	var l [][][]int
	for many := least; many <= most; many++ {
		l = append(l, slices.Repeat([][]int{sort}, many))
	}
	return l
}

// table is the chapter's table; it does not use the limits of the program.
var table = rows()

func rows() []row {
	none := [][][]int{{}}
	one := [][][]int{{expressions}}
	two := [][][]int{{expressions, expressions}}
	return []row{
		{api.KInt, 0, 0, 0, none},
		{api.KBool, 0, 0, 0, none},
		{api.KArr, 1, 4, 0, none},
		{api.KRec, 0, 0, 0, upTo(1, 3, scalars)},
		{api.KNum, -8, 7, 0, none},
		{api.KTruth, 0, 1, 0, none},
		{api.KVar, 0, 5, 0, none},
		{api.KElem, 0, 5, 0, one},
		{api.KField, 0, 5, 2, none},
		{api.KBin, 0, 13, 0, two},
		{api.KNot, 0, 0, 0, one},
		{api.KCall, 0, 5, 0, upTo(0, 3, expressions)},
		{api.KRecv, 0, 2, 0, none},
		{api.KBlock, 0, 0, 0, upTo(0, 8, statements)},
		{api.KSet, 0, 5, 0, one},
		{api.KPut, 0, 5, 0, two},
		{api.KFill, 0, 5, 2, one},
		{api.KIf, 0, 0, 0, [][][]int{{expressions, blocks, blocks}}},
		{api.KWhile, 0, 0, 0, [][][]int{{expressions, blocks}}},
		{api.KReturn, 0, 0, 0, one},
		{api.KThrow, 0, 0, 0, one},
		{api.KOut, 0, 0, 0, one},
		{api.KTry, 0, 5, 0, [][][]int{{blocks, blocks}}},
		{api.KSend, 0, 2, 0, one},
		{api.KSpawn, 0, 5, 0, upTo(0, 3, expressions)},
		{api.KSkip, 0, 0, 0, none},
		{api.KProg, 0, 3, 0, upTo(1, 6, []int{api.KFun})},
	}
}

// minimal is a node of a kind that is as small as the table allows.
func minimal(kind int) api.Node {
	num, empty := node(api.KNum, 0), node(api.KBlock, 0)
	switch kind {
	case api.KArr:
		return node(kind, 1)
	case api.KRec:
		return node(kind, 0, node(api.KInt, 0))
	case api.KElem, api.KNot, api.KSet, api.KFill, api.KReturn, api.KThrow, api.KSend, api.KOut:
		return node(kind, 0, num)
	case api.KBin, api.KPut:
		return node(kind, 0, num, num)
	case api.KIf:
		return node(kind, 0, num, empty, empty)
	case api.KWhile:
		return node(kind, 0, num, empty)
	case api.KTry:
		return node(kind, 0, empty, empty)
	case api.KFun:
		return node(kind, 0, empty)
	case api.KProg:
		return node(kind, 0, node(api.KFun, 0, empty))
	}
	return node(kind, 0)
}

// around is a program with a node where nodes of its kind may stand; nodes of other kinds than those of the table stand in the place of an expression.
func around(n api.Node) api.Node {
	body := func(statement api.Node) api.Node {
		return node(api.KProg, 0, node(api.KFun, 0, node(api.KBlock, 0, statement)))
	}
	switch {
	case n.Kind == api.KProg:
		return n
	case n.Kind == api.KFun:
		return node(api.KProg, 0, n)
	case slices.Contains(allTypes, n.Kind):
		return node(api.KProg, 0, node(api.KFun, 0, n, node(api.KBlock, 0)))
	case slices.Contains(statements, n.Kind):
		return body(n)
	}
	return body(node(api.KReturn, 0, n))
}

// expectValid expects that a tree is a well formed program, or that it is none.
func expectValid(t *testing.T, n api.Node, want bool, what string, numbers ...int) {
	t.Helper()
	if got := tree.Valid(n); got != want {
		for _, x := range numbers {
			what += " " + strconv.Itoa(x)
		}
		t.Errorf("P5.4: %s: %v", what, got)
	}
}

// P5.4: what is minimal is well formed, and the root alone is a program.
func TestValidMinimal(t *testing.T) {
	for kind := range api.Kinds {
		expectValid(t, around(minimal(kind)), kind < api.KAny, "minimal", kind)
		expectValid(t, minimal(kind), kind == api.KProg, "as the root", kind)
	}
	for _, kind := range edgeNumbers() {
		if kind < 0 || kind >= api.Kinds {
			expectValid(t, around(node(kind, 0)), false, "no kind", kind)
			expectValid(t, node(kind, 0, node(api.KFun, 0, node(api.KBlock, 0))), false, "no kind as the root", kind)
		}
	}
	expectValid(t, api.Node{}, false, "the zero tree")
}

// P5.4: N and M of each row, inside and outside of their bounds; also numbers whose low bits are inside of them.
func TestValidNumbers(t *testing.T) {
	for _, r := range table {
		numbers := edgeNumbers()
		for n := r.minN - 1; n <= r.maxN+1; n++ {
			numbers = append(numbers, n, n+1<<8, n-1<<8, n+1<<16, n+1<<32, n-1<<32)
		}
		for _, n := range numbers {
			x := minimal(r.kind)
			x.N = n
			expectValid(t, around(x), n >= r.minN && n <= r.maxN, "kind and N", r.kind, n)
		}
		for _, m := range append(numbers, 1<<8+1, 1<<8+2, 1<<32+1) {
			x := minimal(r.kind)
			x.M = m
			expectValid(t, around(x), m >= 0 && m <= r.maxM, "kind and M", r.kind, m)
		}
	}
}

// minimals has a minimal node of each kind that a list names first.
func minimals(kids [][]int) []api.Node {
	var l []api.Node
	for _, sort := range kids {
		l = append(l, minimal(sort[0]))
	}
	return l
}

// P5.4: the number of kids of each row.
func TestValidNumbersOfKids(t *testing.T) {
	for _, r := range table {
		longest := r.kids[len(r.kids)-1]
		for many := range len(longest) + 4 {
			x := minimal(r.kind)
			x.Kids = minimals(longest)[:min(many, len(longest))]
			for len(x.Kids) < many {
				last := minimal(api.KNum)
				if len(longest) > 0 {
					last = minimal(longest[len(longest)-1][0])
				}
				x.Kids = append(x.Kids, last)
			}
			want := slices.ContainsFunc(r.kids, func(kids [][]int) bool { return len(kids) == many })
			expectValid(t, around(x), want, "kind and number of kids", r.kind, many)
		}
	}
}

// P5.4: each kind in the place of each kid of each row.
func TestValidSortsOfKids(t *testing.T) {
	for _, r := range table {
		for _, kids := range r.kids {
			for i, sort := range kids {
				for kind := -1; kind <= api.Kinds; kind++ {
					x := minimal(r.kind)
					x.Kids = minimals(kids)
					x.Kids[i] = minimal(kind)
					expectValid(t, around(x), slices.Contains(sort, kind), "kind, number of kids, kid and its kind", r.kind, len(kids), i, kind)
				}
			}
		}
	}
}

// P5.4: all lists of up to four kids that are one of each sort.
func TestValidListsOfKids(t *testing.T) {
	heads := []int{api.KInt, api.KArr, api.KNum, api.KBlock, api.KSkip, api.KFun}
	lists := [][]int{{}}
	for k := 0; k < len(lists); k++ {
		if len(lists[k]) == 4 {
			continue
		}
		for _, kind := range heads {
			lists = append(lists, slices.Concat(lists[k], []int{kind}))
		}
	}
	for _, r := range table {
		for _, l := range lists {
			x := minimal(r.kind)
			x.Kids = nil
			for _, kind := range l {
				x.Kids = append(x.Kids, minimal(kind))
			}
			want := slices.ContainsFunc(r.kids, func(kids [][]int) bool {
				return slices.EqualFunc(kids, l, func(sort []int, kind int) bool { return slices.Contains(sort, kind) })
			})
			expectValid(t, around(x), want, "kind and kinds of kids", slices.Concat([]int{r.kind}, l)...)
		}
	}
}

// P5.4: functions, for each N and number of types; the first N of them may not be arrays or records.
func TestValidFunctions(t *testing.T) {
	for n := -2; n <= 5; n++ {
		for many := range 9 {
			x := node(api.KFun, n)
			for range many {
				x.Kids = append(x.Kids, minimal(api.KBool))
			}
			expectValid(t, around(x), false, "a function without a block", n, many)
			x.Kids = append(x.Kids, minimal(api.KBlock))
			want := n >= 0 && n <= 3 && many >= n && many <= 6
			expectValid(t, around(x), want, "N and number of types", n, many)
			for i := range x.Kids {
				for kind := -1; kind <= api.Kinds; kind++ {
					y := copyOf(x)
					y.Kids[i] = minimal(kind)
					sort := allTypes
					if i == many {
						sort = blocks
					} else if i < n {
						sort = scalars
					}
					expectValid(t, around(y), want && slices.Contains(sort, kind), "N, number of types, kid and its kind", n, many, i, kind)
				}
			}
			x.Kids = append(x.Kids, minimal(api.KBlock))
			expectValid(t, around(x), false, "a function with two blocks", n, many)
		}
	}
	for _, n := range []int{1<<8 + 1, 1 << 8, 1 << 32, math.MinInt, math.MaxInt} {
		expectValid(t, around(node(api.KFun, n, minimal(api.KInt), minimal(api.KBlock))), false, "parameters", n)
		x := minimal(api.KFun)
		x.M = n
		expectValid(t, around(x), false, "M of a function", n)
	}
	for _, m := range []int{-1, 1, 2} {
		x := minimal(api.KFun)
		x.M = m
		expectValid(t, around(x), false, "M of a function", m)
	}
}

// sample is fun f0(word) [truth value, array of 3, record] { v0 = v0 + 1; if not v1 { out v0 } else { } }, with one channel.
func sample() api.Node {
	set := node(api.KSet, 0, node(api.KBin, api.Add, node(api.KVar, 0), node(api.KNum, 1)))
	cond := node(api.KIf, 0, node(api.KNot, 0, node(api.KVar, 1)), node(api.KBlock, 0, node(api.KOut, 0, node(api.KVar, 0))), node(api.KBlock, 0))
	record := node(api.KRec, 0, node(api.KInt, 0), node(api.KBool, 0))
	return node(api.KProg, 1, node(api.KFun, 1, node(api.KInt, 0), node(api.KBool, 0), node(api.KArr, 3), record, node(api.KBlock, 0, set, cond)))
}

// filled is a program with a given number of nodes, of which six or more are statements: in blocks of eight, and in functions of eight blocks.
func filled(size int) api.Node {
	p := node(api.KProg, 0)
	left := size - 1
	for left >= 2 {
		body := node(api.KBlock, 0)
		left -= 2
		for left > 0 && len(body.Kids) < 8 {
			b := node(api.KBlock, 0)
			left--
			for left > 0 && len(b.Kids) < 8 {
				b.Kids = append(b.Kids, node(api.KSkip, 0))
				left--
			}
			body.Kids = append(body.Kids, b)
		}
		p.Kids = append(p.Kids, node(api.KFun, 0, body))
	}
	return p
}

// longest has as many nodes as a program may have.
func longest() api.Node { return filled(256) }

// deepTo is a program of a given depth, of expressions or of statements, in which the deepest place is not the last one.
func deepTo(depth int, ofStatements bool) api.Node {
	if ofStatements {
		n := node(api.KSkip, 0)
		for range depth - 3 {
			n = node(api.KBlock, 0, n, node(api.KSkip, 0))
		}
		return node(api.KProg, 0, node(api.KFun, 0, n), node(api.KFun, 0, node(api.KBlock, 0)))
	}
	n := node(api.KNum, 0)
	for range depth - 5 {
		n = node(api.KNot, 0, n)
	}
	return node(api.KProg, 0, node(api.KFun, 0, node(api.KBlock, 0, node(api.KReturn, 0, n), node(api.KSkip, 0))))
}

// deepest is as deep as a program may be.
func deepest() api.Node { return deepTo(16, false) }

// P5.4: the number of nodes.
func TestValidSize(t *testing.T) {
	for size := 3; size <= 400; size++ {
		p := filled(size)
		if len(plainNodes(p)) != size {
			continue
		}
		expectValid(t, p, size <= 256, "nodes", size)
	}
	if len(plainNodes(filled(256))) != 256 || len(plainNodes(filled(257))) != 257 {
		t.Error("P5.4: the programs do not have the sizes that are meant")
	}
	expectValid(t, node(api.KProg, 0, slices.Repeat(filled(60).Kids, 6)...), false, "nodes", 355)
}

// P5.4: the depth.
func TestValidDepth(t *testing.T) {
	for depth := 5; depth <= 40; depth++ {
		for _, ofStatements := range []bool{false, true} {
			p := deepTo(depth, ofStatements)
			if plainDepth(p) != depth {
				t.Fatalf("P5.4: the depth %d is not the one that is meant", plainDepth(p))
			}
			expectValid(t, p, depth <= 16, "depth", depth)
		}
	}
	expectValid(t, deepTo(1<<16, false), false, "depth", 1<<16)
	expectValid(t, chain(1<<16), false, "depth", 1<<16)
}

// P5.4: KProg, and a whole program, in every place below the root.
func TestValidProgramBelowRoot(t *testing.T) {
	for _, p := range []api.Node{sample(), minimal(api.KProg)} {
		for _, path := range plainPaths(p)[1:] {
			expectValid(t, plainSet(p, path, minimal(api.KProg)), false, "a program at", path...)
			expectValid(t, plainSet(p, path, node(api.KProg, 0)), false, "KProg at", path...)
		}
	}
}

// P5.4: what is wrong is found in every place of a program.
func TestValidInEveryPlace(t *testing.T) {
	for _, p := range []api.Node{sample(), longest(), deepest()} {
		expectValid(t, p, true, "a program")
		nodes := plainNodes(p)
		for i, path := range plainPaths(p) {
			for _, x := range []api.Node{{Kind: nodes[i].Kind, N: nodes[i].N, M: 9, Kids: nodes[i].Kids}, {Kind: nodes[i].Kind, N: -9, Kids: nodes[i].Kids}, node(api.KAny, 0), node(api.KCond, 0), node(api.Kinds, 0), node(-1, 0)} {
				expectValid(t, plainSet(p, path, x), false, "a wrong node at", path...)
			}
		}
	}
}

// plainValid is the table for one node: whether it may stand where one of the kinds of a list may.
func plainValid(n api.Node, sort []int) bool {
	if !slices.Contains(sort, n.Kind) {
		return false
	}
	if n.Kind == api.KFun {
		types := len(n.Kids) - 1
		if n.M != 0 || n.N < 0 || n.N > 3 || types < n.N || types > 6 {
			return false
		}
		for i, kid := range n.Kids[:types] {
			if i < n.N && !plainValid(kid, scalars) || !plainValid(kid, allTypes) {
				return false
			}
		}
		return plainValid(n.Kids[types], blocks)
	}
	r := table[slices.IndexFunc(table, func(r row) bool { return r.kind == n.Kind })]
	if n.N < r.minN || n.N > r.maxN || n.M < 0 || n.M > r.maxM {
		return false
	}
	return slices.ContainsFunc(r.kids, func(kids [][]int) bool { return slices.EqualFunc(n.Kids, kids, plainValid) })
}

// plainProgram is the definition of a well formed program.
func plainProgram(n api.Node) bool {
	return len(plainNodes(n)) <= 256 && plainDepth(n) <= 16 && plainValid(n, []int{api.KProg})
}

// anyNode is a node of one of some kinds, with all that the table asks for; it is of a limited depth, if that suffices.
func anyNode(r *rand.Rand, sort []int, depth int) api.Node {
	kind := sort[r.Intn(len(sort))]
	if kind == api.KFun {
		n := node(kind, r.Intn(4))
		for range n.N {
			n.Kids = append(n.Kids, anyNode(r, scalars, depth-1))
		}
		for range r.Intn(7 - n.N) {
			n.Kids = append(n.Kids, anyNode(r, allTypes, depth-1))
		}
		n.Kids = append(n.Kids, anyNode(r, blocks, depth-1))
		return n
	}
	x := table[slices.IndexFunc(table, func(r row) bool { return r.kind == kind })]
	n := api.Node{Kind: kind, N: x.minN + r.Intn(x.maxN-x.minN+1), M: r.Intn(x.maxM + 1)}
	for _, kid := range x.kids[r.Intn(min(len(x.kids), 3))] {
		if depth <= 1 {
			n.Kids = append(n.Kids, minimal(kid[0]))
			continue
		}
		n.Kids = append(n.Kids, anyNode(r, kid, depth-1))
	}
	return n
}

// anyProgram is a tree that is a program, but for its size, which may be too great.
func anyProgram(r *rand.Rand) api.Node {
	return anyNode(r, []int{api.KProg}, 4+r.Intn(6))
}

// P5.4: many programs, and trees that differ from one in a node.
func TestValidOfAnyProgram(t *testing.T) {
	r := rand.New(rand.NewSource(7))
	programs := 0
	for range 1500 {
		p := anyProgram(r)
		want := plainProgram(p)
		expectValid(t, p, want, "any program")
		if !want {
			continue
		}
		programs++
		paths := plainPaths(p)
		for range 10 {
			path := paths[r.Intn(len(paths))]
			x, _ := tree.At(p, path)
			switch r.Intn(5) {
			case 0:
				x.N += r.Intn(5) - 2
			case 1:
				x.M += r.Intn(3) - 1
			case 2:
				x.Kind = r.Intn(api.Kinds+2) - 1
			case 3:
				x.Kids = append(x.Kids, minimal(r.Intn(api.KProg)))
			case 4:
				x.Kids = x.Kids[:r.Intn(len(x.Kids)+1)]
			}
			q := plainSet(p, path, x)
			expectValid(t, q, plainProgram(q), "any program that was changed at", path...)
		}
	}
	if programs < 300 {
		t.Errorf("P5.4: only %d of the trees are programs", programs)
	}
	for _, n := range append(someTrees(), smallTrees()...) {
		expectValid(t, n, plainProgram(n), "a tree")
	}
}
