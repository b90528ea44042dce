package text_test

import (
	"math"
	"math/rand"
	"slices"
	"strings"
	"testing"

	"scoria/api"
	"scoria/text"
)

// expectLines expects the lines of all places, in preorder.
func expectLines(t *testing.T, n api.Node, want ...int) {
	t.Helper()
	for i, path := range placesOf(n) {
		if got := text.Line(n, path); got != want[i] {
			t.Errorf("P6.3: the node at %v of %v begins in line %d, not in %d", path, n, got, want[i])
		}
	}
	if got := plainLines(n); !slices.Equal(got, want) {
		t.Errorf("P6.3: the lines of %v are %v in the plain version", n, got)
	}
}

// expectNoLine expects that there is no line for a place.
func expectNoLine(t *testing.T, n api.Node, path []int) {
	t.Helper()
	if line := text.Line(n, path); line != 0 {
		t.Errorf("P6.3: the node at %v of %v begins in line %d", path, n, line)
	}
}

// P6.3: programs and functions, and each statement.
func TestLineStatements(t *testing.T) {
	expectLines(t, node(api.KProg, 2), 1)
	expectLines(t, node(api.KProg, 0, node(api.KFun, 0, empty), node(api.KFun, 0, node(api.KRec, 0, node(api.KInt, 0)), node(api.KBool, 0), empty)), 1, 2, 2, 4, 4, 4, 4, 4)
	sum := bin(api.Add, v0, one)
	for _, c := range []struct {
		n    api.Node
		want []int // the lines of all of its nodes, if it begins in line 3
	}{
		{skip, []int{3}},
		{empty, []int{3}},
		{block(block(skip), skip), []int{3, 4, 5, 7}},
		{node(api.KSet, 0, sum), []int{3, 3, 3, 3}},
		{node(api.KPut, 0, sum, node(api.KNot, 0, yes)), []int{3, 3, 3, 3, 3, 3}},
		{field(api.KFill, 0, 1, node(api.KNum, -1)), []int{3, 3}},
		{node(api.KIf, 0, sum, empty, empty), []int{3, 3, 3, 3, 3, 4}},
		{node(api.KIf, 0, yes, block(skip), block(empty, skip)), []int{3, 3, 3, 4, 5, 6, 8}},
		{node(api.KWhile, 0, sum, block(skip, skip)), []int{3, 3, 3, 3, 3, 4, 5}},
		{node(api.KTry, 1, empty, empty), []int{3, 3, 4}},
		{node(api.KTry, 1, block(skip, skip), block(skip, empty)), []int{3, 3, 4, 5, 6, 7, 8}},
		{node(api.KReturn, 0, node(api.KCall, 0, one, sum)), []int{3, 3, 3, 3, 3, 3}},
		{node(api.KThrow, 0, node(api.KElem, 0, node(api.KRecv, 1))), []int{3, 3, 3}},
		{node(api.KSend, 0, field(api.KField, 0, 1)), []int{3, 3}},
		{node(api.KSpawn, 0, one, one), []int{3, 3, 3}},
		{node(api.KOut, 0, sum), []int{3, 3, 3, 3}},
	} {
		lines := strings.Count(text.Print(c.n), "\n")
		next := 5 + lines
		want := slices.Concat([]int{1, 2, 2}, c.want, []int{3 + lines, next, next, next})
		expectLines(t, node(api.KProg, 0, node(api.KFun, 0, block(c.n, skip)), node(api.KFun, 1, node(api.KInt, 0), empty)), want...)
	}
}

// lineOf is the line of a text in which something stands for the first time.
func lineOf(t *testing.T, s, mark string) int {
	t.Helper()
	before, _, found := strings.Cut(s, mark)
	if !found {
		t.Fatalf("P6.3: %q has no %q", s, mark)
	}
	return 1 + strings.Count(before, "\n")
}

// P6.3: the line of each node that has a token of its own, found in the text.
func TestLineInText(t *testing.T) {
	r := rand.New(rand.NewSource(67))
	for range 40 {
		n := anyNode(r, "PROG", 5, func() int { return r.Intn(500) })
		paths := placesOf(n)
		for _, i := range r.Perm(len(paths))[:min(len(paths), 200)] {
			path := paths[i]
			x := copyOf(at(n, path))
			mark := "777"
			switch x.Kind {
			case api.KVar, api.KElem, api.KField, api.KSet, api.KPut, api.KFill:
				x.N, mark = 777, "v777"
			case api.KCall:
				x.N, mark = 777, "f777"
			case api.KArr, api.KNum, api.KRecv, api.KSend, api.KSpawn, api.KFun, api.KProg:
				x.N = 777
			default:
				continue
			}
			changed := with(n, path, x)
			if got, want := text.Line(changed, path), lineOf(t, text.Print(changed), mark); got != want {
				t.Fatalf("P6.3: the node at %v of %v begins in line %d, not in %d", path, changed, got, want)
			}
		}
	}
}

// P6.3: nil and empty places, and places that do not exist.
func TestLineOfNoPlace(t *testing.T) {
	r := rand.New(rand.NewSource(68))
	for _, n := range []api.Node{example(), sample(), node(api.KProg, 0), anyNode(r, "PROG", 3, anyNumber(r))} {
		for _, path := range [][]int{nil, {}, make([]int, 0, 5)} {
			if line := text.Line(n, path); line != 1 {
				t.Errorf("P6.3: a program begins in line %d", line)
			}
		}
		for _, path := range placesOf(n) {
			kids := len(at(n, path).Kids)
			for _, i := range []int{kids, kids + 1, -1, -2, math.MinInt, math.MaxInt, 1 << 32, -1 << 32} {
				expectNoLine(t, n, slices.Concat(path, []int{i}))
				expectNoLine(t, n, slices.Concat(path, []int{i, 0}))
				expectNoLine(t, n, slices.Concat(path, []int{i, 0, -1}))
			}
			for i := range path {
				wrong := slices.Clone(path)
				wrong[i] = -1 - wrong[i]
				expectNoLine(t, n, wrong)
				wrong[i] = len(at(n, path[:i]).Kids)
				expectNoLine(t, n, wrong)
			}
		}
	}
}

// P6.3: trees that are no printable programs: printable ones of other sorts, and programs with a node that is not printable.
func TestLineOfNoProgram(t *testing.T) {
	expectNone := func(n api.Node) {
		t.Helper()
		for _, path := range append(placesOf(n), nil, []int{-1}, []int{0, 99}) {
			expectNoLine(t, n, path)
		}
	}
	for kind := -1; kind <= api.Kinds; kind++ {
		if kind != api.KProg {
			expectNone(minimal(kind))
		}
	}
	expectNone(api.Node{})
	expectNone(example().Kids[0])
	expectNone(example().Kids[0].Kids[1])
	r := rand.New(rand.NewSource(69))
	for _, path := range placesOf(sample()) {
		x := copyOf(at(sample(), path))
		switch r.Intn(4) {
		case 0:
			x.M = -1
		case 1:
			x.Kids = append(x.Kids, node(api.KAny, 0))
		case 2:
			x.N = 1000
		case 3:
			x.Kind = api.KCond
		}
		expectNone(with(sample(), path, x))
	}
}

// P6.3: very deep and very large programs.
func TestLineDeep(t *testing.T) {
	const deep = 65000
	path := []int{0, 0}
	for range deep {
		path = append(path, 0)
	}
	expect := func(n api.Node, path []int, want int) {
		t.Helper()
		if line := text.Line(n, path); line != want {
			t.Errorf("P6.3: the node begins in line %d, not in %d", line, want)
		}
	}
	blocks := body(nested(deep-1, skip, func(n api.Node) api.Node { return block(n) }))
	expect(blocks, path, 2+deep)
	expect(blocks, path[:1000], 2+1000-2)
	expect(blocks, append(slices.Clone(path), 0), 0)
	sums := body(skip, node(api.KOut, 0, nested(deep, one, func(n api.Node) api.Node { return bin(api.Add, n, one) })))
	expect(sums, slices.Concat([]int{0, 0, 1, 0}, path[2:]), 4)
	expect(body(nested(deep, node(api.KAny, 0), func(n api.Node) api.Node { return block(n) })), path, 0)

	wide := body(slices.Repeat([]api.Node{node(api.KIf, 0, yes, block(skip), empty)}, 10000)...)
	for _, i := range []int{0, 1, 5000, 9999} {
		expect(wide, []int{0, 0, i}, 3+4*i)
		expect(wide, []int{0, 0, i, 1, 0}, 4+4*i)
		expect(wide, []int{0, 0, i, 2}, 5+4*i)
	}
	expect(wide, []int{0, 0, 10000}, 0)
}
