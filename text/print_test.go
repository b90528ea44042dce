package text_test

import (
	"math"
	"math/rand"
	"slices"
	"strings"
	"testing"

	"scoria/api"
	"scoria/text"
)

// Short names for nodes of examples.
var (
	zero  = node(api.KNum, 0)
	one   = node(api.KNum, 1)
	v0    = node(api.KVar, 0)
	yes   = node(api.KTruth, 1)
	empty = node(api.KBlock, 0)
	skip  = node(api.KSkip, 0)
)

func block(l ...api.Node) api.Node { return node(api.KBlock, 0, l...) }

func bin(op int, a, b api.Node) api.Node { return node(api.KBin, op, a, b) }

// expectPrint expects a text, from the program and from the plain version.
func expectPrint(t *testing.T, n api.Node, want string) {
	t.Helper()
	if got := text.Print(n); got != want {
		t.Errorf("P6.1: %v is printed as %q, not as %q", n, got, want)
	}
	if got := plainPrint(n); got != want {
		t.Errorf("P6.1: %v is printed as %q by the plain version", n, got)
	}
}

// expectAsPlain expects what the plain version prints, and the lines that it has.
func expectAsPlain(t *testing.T, n api.Node) string {
	t.Helper()
	want := plainPrint(n)
	if got := text.Print(n); got != want {
		t.Fatalf("P6.1: %v is printed as %q, not as %q", n, got, want)
	}
	begins := plainLines(n)
	for i, path := range placesOf(n) {
		line := 0
		if len(begins) > 0 {
			line = begins[i]
		}
		if got := text.Line(n, path); got != line {
			t.Fatalf("P6.3: the node at %v of %v begins in line %d, not in %d", path, n, got, line)
		}
	}
	return want
}

// P6.1: types, expressions, and the spaces in them.
func TestPrintTypesAndExpressions(t *testing.T) {
	i, b := node(api.KInt, 0), node(api.KBool, 0)
	for _, c := range []struct {
		n    api.Node
		want string
	}{
		{i, "int"},
		{b, "bool"},
		{node(api.KArr, 0), "arr 0"},
		{node(api.KArr, 12), "arr 12"},
		{node(api.KRec, 0, i), "rec (int)"},
		{node(api.KRec, 0, i, b, i, b), "rec (int, bool, int, bool)"},
		{node(api.KRec, 0, node(api.KRec, 0, node(api.KArr, 3), b), node(api.KRec, 0, i)), "rec (rec (arr 3, bool), rec (int))"},
		{zero, "0"},
		{node(api.KNum, 999), "999"},
		{node(api.KNum, -1), "-1"},
		{node(api.KNum, -999), "-999"},
		{node(api.KTruth, 0), "false"},
		{yes, "true"},
		{node(api.KVar, 10), "v10"},
		{node(api.KElem, 2, v0), "v2[v0]"},
		{node(api.KElem, 0, node(api.KNum, -1)), "v0[-1]"},
		{node(api.KElem, 0, node(api.KElem, 1, bin(api.Add, v0, one))), "v0[v1[(v0 + 1)]]"},
		{field(api.KField, 3, 0), "v3.0"},
		{field(api.KField, 0, 11), "v0.11"},
		{bin(api.Sub, node(api.KNum, -1), node(api.KNum, -2)), "(-1 - -2)"},
		{bin(api.Both, node(api.KNot, 0, yes), bin(api.Same, bin(api.Shl, v0, one), zero)), "(!true && ((v0 << 1) == 0))"},
		{node(api.KNot, 0, node(api.KNot, 0, node(api.KNum, -3))), "!!-3"},
		{node(api.KNot, 0, bin(api.Less, v0, one)), "!(v0 < 1)"},
		{node(api.KCall, 1), "f1()"},
		{node(api.KCall, 1, one), "f1(1)"},
		{node(api.KCall, 0, bin(api.Add, one, one), node(api.KCall, 2, node(api.KNum, -1), node(api.KCall, 3)), node(api.KNot, 0, v0)), "f0((1 + 1), f2(-1, f3()), !v0)"},
		{node(api.KRecv, 2), "recv c2"},
		{bin(api.Sub, node(api.KRecv, 0), field(api.KField, 1, 2)), "(recv c0 - v1.2)"},
		{bin(api.Or, node(api.KElem, 1, zero), node(api.KCall, 1, one)), "(v1[0] | f1(1))"},
	} {
		expectPrint(t, c.n, c.want)
	}
	for op, sign := range strings.Fields("+ - * / % & | ^ << >> < == && ||") {
		expectPrint(t, bin(op, v0, one), "(v0 "+sign+" 1)")
	}
}

// P6.1: statements, functions and programs, and the spaces in them.
func TestPrintStatements(t *testing.T) {
	sum := bin(api.Add, v0, one)
	for _, c := range []struct {
		n    api.Node
		want string
	}{
		{empty, "{\n}\n"},
		{block(skip, skip), "{\n  skip\n  skip\n}\n"},
		{block(block(block(skip), empty), skip), "{\n  {\n    {\n      skip\n    }\n    {\n    }\n  }\n  skip\n}\n"},
		{node(api.KSet, 4, sum), "v4 = (v0 + 1)\n"},
		{node(api.KSet, 4, node(api.KNum, -1)), "v4 = -1\n"},
		{node(api.KPut, 1, sum, node(api.KNot, 0, v0)), "v1[(v0 + 1)] = !v0\n"},
		{node(api.KPut, 1, node(api.KNum, -1), zero), "v1[-1] = 0\n"},
		{field(api.KFill, 1, 2, sum), "v1.2 = (v0 + 1)\n"},
		{node(api.KIf, 0, sum, empty, empty), "if (v0 + 1) {\n} else {\n}\n"},
		{node(api.KIf, 0, yes, block(skip), empty), "if true {\n  skip\n} else {\n}\n"},
		{node(api.KIf, 0, yes, empty, block(node(api.KIf, 0, v0, block(skip), block(skip)))), "if true {\n} else {\n  if v0 {\n    skip\n  } else {\n    skip\n  }\n}\n"},
		{node(api.KWhile, 0, node(api.KNot, 0, yes), empty), "while !true {\n}\n"},
		{node(api.KWhile, 0, sum, block(node(api.KWhile, 0, yes, block(skip)), skip)), "while (v0 + 1) {\n  while true {\n    skip\n  }\n  skip\n}\n"},
		{node(api.KReturn, 0, sum), "return (v0 + 1)\n"},
		{node(api.KReturn, 0, node(api.KNum, -8)), "return -8\n"},
		{node(api.KThrow, 0, node(api.KCall, 1)), "throw f1()\n"},
		{node(api.KTry, 3, empty, empty), "try {\n} catch v3 {\n}\n"},
		{node(api.KTry, 0, block(node(api.KTry, 10, block(skip), empty)), block(skip, empty)), "try {\n  try {\n    skip\n  } catch v10 {\n  }\n} catch v0 {\n  skip\n  {\n  }\n}\n"},
		{node(api.KSend, 1, sum), "send c1 (v0 + 1)\n"},
		{node(api.KSend, 0, node(api.KNum, -1)), "send c0 -1\n"},
		{node(api.KSend, 0, node(api.KRecv, 1)), "send c0 recv c1\n"},
		{node(api.KSpawn, 1), "spawn f1()\n"},
		{node(api.KSpawn, 12, sum, zero), "spawn f12((v0 + 1), 0)\n"},
		{node(api.KOut, 0, node(api.KNot, 0, yes)), "out !true\n"},
		{skip, "skip\n"},
		{node(api.KFun, 0, empty), "fun 0 () {\n}\n"},
		{node(api.KFun, 7, block(skip)), "fun 7 () {\n  skip\n}\n"},
		{node(api.KFun, 1, node(api.KInt, 0), node(api.KRec, 0, node(api.KBool, 0), node(api.KInt, 0)), node(api.KArr, 4), block(empty)), "fun 1 (int, rec (bool, int), arr 4) {\n  {\n  }\n}\n"},
		{node(api.KProg, 0), "program 0\n"},
		{node(api.KProg, 999), "program 999\n"},
		{node(api.KProg, 3, node(api.KFun, 0, empty), node(api.KFun, 1, node(api.KInt, 0), block(skip))), "program 3\nfun 0 () {\n}\nfun 1 (int) {\n  skip\n}\n"},
	} {
		expectPrint(t, c.n, c.want)
		expectAsPlain(t, c.n)
	}
}

// example is the program of the chapter's example.
func example() api.Node {
	sum := bin(api.Add, v0, one)
	return node(api.KProg, 0, node(api.KFun, 1, node(api.KInt, 0), block(node(api.KSet, 0, sum), node(api.KReturn, 0, v0))))
}

// Examples of the chapter.
func TestExamples(t *testing.T) {
	const s = "program 0\nfun 1 (int) {\n  v0 = (v0 + 1)\n  return v0\n}\n"
	expectPrint(t, example(), s)
	expectParse(t, s, example(), -1)
	if line := text.Line(example(), []int{0, 1, 0, 0}); line != 3 {
		t.Errorf("P6.3: the sum is in line %d", line)
	}
	expectParse(t, "program 0 fun 1 (int) { return (v0) }", api.Node{}, 34)
}

// numbersAround are numbers in and around those of numerals, and some of which the low bits look like those of numerals.
func numbersAround() []int {
	l := []int{math.MinInt, math.MaxInt, 1 << 8, 1 << 16, 1 << 32, -1 << 8, -1 << 32, 1<<32 + 1, api.AnyN}
	for _, n := range []int{0, 1, 13, 14, 99, 100, 255, 999, 1000, 1001, 9999, 10000} {
		l = append(l, n, -n, n+1<<8, n+1<<32, n-1<<32)
	}
	return l
}

// P6.1: each number of each kind, also where the grammar does not set it, alone and in a program.
func TestPrintNumbers(t *testing.T) {
	for kind := -1; kind <= api.Kinds; kind++ {
		for _, number := range numbersAround() {
			n, m := minimal(kind), minimal(kind)
			n.N = number
			m.M = number
			for _, x := range []api.Node{n, m, around("EXPR", n), around("EXPR", m), around("STMT", n), around("STMT", m), around("TYPE", n), around("TYPE", m)} {
				expectAsPlain(t, x)
			}
		}
	}
	for _, c := range []struct {
		n    api.Node
		want string
	}{
		{node(api.KNum, 1000), ""},
		{node(api.KNum, -1000), ""},
		{node(api.KNum, math.MinInt), ""},
		{node(api.KVar, 1000), ""},
		{node(api.KVar, -1), ""},
		{field(api.KVar, 0, 1), ""},
		{field(api.KField, 0, 1000), ""},
		{field(api.KField, 0, -1), ""},
		{node(api.KTruth, -1), ""},
		{node(api.KTruth, 2), ""},
		{node(api.KBin, -1, one, one), ""},
		{node(api.KBin, api.Bins, one, one), ""},
		{node(api.KInt, 1), ""},
		{node(api.KNot, 1, yes), ""},
		{node(api.KBlock, 1), ""},
		{node(api.KFun, 1000, empty), ""},
		{field(api.KProg, 0, 1), ""},
		{node(api.KTry, 1000, empty, empty), ""},
		{node(api.KSend, -1, one), ""},
	} {
		expectPrint(t, c.n, c.want)
	}
}

// P6.1: kinds that are none, and kinds that are no part of programs.
func TestPrintKinds(t *testing.T) {
	for _, kind := range append(numbersAround(), api.KAny, api.KCond, api.Kinds) {
		if kind >= 0 && kind < api.KAny {
			continue
		}
		for _, kids := range [][]api.Node{nil, {one}, {one, one}, {yes, one, one}, {empty}} {
			expectPrint(t, node(kind, 0, kids...), "")
		}
	}
	expectPrint(t, api.Node{}, "int")
	expectPrint(t, api.Node{Kids: []api.Node{}}, "int")
}

// P6.1: each kind with all lists of up to four kids that are one of each sort.
func TestPrintListsOfKids(t *testing.T) {
	heads := []int{api.KInt, api.KRec, api.KNum, api.KBlock, api.KSkip, api.KFun, api.KProg, api.KAny}
	lists := [][]api.Node{{}}
	for k := 0; k < len(lists); k++ {
		if len(lists[k]) == 4 {
			continue
		}
		for _, kind := range heads {
			lists = append(lists, slices.Concat(lists[k], []api.Node{minimal(kind)}))
		}
	}
	printed := 0
	for kind := range api.Kinds {
		for _, l := range lists {
			n := node(kind, 0, l...)
			want := plainPrint(n)
			if got := text.Print(n); got != want {
				t.Fatalf("P6.1: %v is printed as %q, not as %q", n, got, want)
			}
			if want != "" {
				printed++
			}
		}
	}
	if printed < 100 {
		t.Errorf("P6.1: only %d of the trees are printable", printed)
	}
}

// P6.1: each kind in the place of each kid of each kind.
func TestPrintSortsOfKids(t *testing.T) {
	for kind := range api.KAny {
		n := minimal(kind)
		for i := range n.Kids {
			for other := -1; other <= api.Kinds; other++ {
				expectAsPlain(t, with(n, []int{i}, minimal(other)))
			}
			less := copyOf(n)
			less.Kids = slices.Delete(less.Kids, i, i+1)
			expectAsPlain(t, less)
			more := copyOf(n)
			more.Kids = slices.Insert(more.Kids, i, copyOf(n.Kids[i]))
			expectAsPlain(t, more)
		}
	}
}

// P6.1: a node that is not printable keeps all around it from being printed, wherever it stands.
func TestPrintInEveryPlace(t *testing.T) {
	r := rand.New(rand.NewSource(61))
	expectNothing := func(n api.Node) {
		t.Helper()
		if s := text.Print(n); s != "" {
			t.Fatalf("P6.1: %v is printed as %q", n, s)
		}
	}
	for _, sort := range sortsOf {
		for range 10 {
			n := anyNode(r, sort, 4, anyNumber(r))
			if expectAsPlain(t, n) == "" {
				t.Fatalf("P6.1: %v is not printable", n)
			}
			paths := placesOf(n)
			for _, i := range r.Perm(len(paths))[:min(len(paths), 100)] {
				path := paths[i]
				for _, x := range []api.Node{node(api.KAny, 0), node(api.KNum, 1000), node(api.KRec, 0), node(api.KProg, 0, skip)} {
					expectNothing(with(n, path, x))
				}
				x := copyOf(at(n, path))
				x.M = 1000
				expectNothing(with(n, path, x))
				x.M = 0
				x.Kids = append(x.Kids, node(api.KCond, 0))
				expectNothing(with(n, path, x))
			}
		}
	}
}

// P6.1, P6.3: many trees, and such as differ from one in a node.
func TestPrintAny(t *testing.T) {
	r := rand.New(rand.NewSource(62))
	printed, others := 0, 0
	for range 1500 {
		n := anyNode(r, sortsOf[r.Intn(len(sortsOf))], r.Intn(5), anyNumber(r))
		if expectAsPlain(t, n) != "" {
			printed++
		}
		paths := placesOf(n)
		path := paths[r.Intn(len(paths))]
		x := copyOf(at(n, path))
		switch r.Intn(5) {
		case 0:
			x.N += r.Intn(5) - 2
		case 1:
			x.M += r.Intn(3) - 1
		case 2:
			x.Kind = r.Intn(api.Kinds+2) - 1
		case 3:
			x.Kids = append(x.Kids, anyNode(r, sortsOf[r.Intn(len(sortsOf))], 1, anyNumber(r)))
		case 4:
			x.Kids = x.Kids[:r.Intn(len(x.Kids)+1)]
		}
		if expectAsPlain(t, with(n, path, x)) == "" {
			others++
		}
	}
	if printed != 1500 || others < 300 {
		t.Errorf("P6.1: %d trees are printable, %d changed ones are not", printed, others)
	}
}

// nested is a node inside of another one that a function makes, many times.
func nested(depth int, n api.Node, next func(n api.Node) api.Node) api.Node {
	for range depth {
		n = next(n)
	}
	return n
}

// P6.1: very deep trees.
func TestPrintDeep(t *testing.T) {
	const deep = 65000
	expect := func(n api.Node, want string) {
		t.Helper()
		if got := text.Print(n); got != want {
			t.Errorf("P6.1: a deep tree is printed in %d bytes, not in %d", len(got), len(want))
		}
	}
	expect(nested(deep, one, func(n api.Node) api.Node { return node(api.KNot, 0, n) }), strings.Repeat("!", deep)+"1")
	expect(nested(deep, one, func(n api.Node) api.Node { return bin(api.Shr, n, v0) }), strings.Repeat("(", deep)+"1"+strings.Repeat(" >> v0)", deep))
	expect(nested(deep, one, func(n api.Node) api.Node { return node(api.KCall, 1, v0, n) }), strings.Repeat("f1(v0, ", deep)+"1"+strings.Repeat(")", deep))
	expect(nested(deep, node(api.KInt, 0), func(n api.Node) api.Node { return node(api.KRec, 0, n) }), strings.Repeat("rec (", deep)+"int"+strings.Repeat(")", deep))
	expect(nested(deep, node(api.KAny, 0), func(n api.Node) api.Node { return node(api.KNot, 0, n) }), "")
	expect(nested(deep, node(api.KAny, 0), func(n api.Node) api.Node { return block(n) }), "")
	expect(nested(deep, one, func(n api.Node) api.Node { return node(api.KProg, 0, n) }), "")

	const depth = 2000
	var want strings.Builder
	for i := range depth {
		want.WriteString(strings.Repeat("  ", i) + "while true {\n")
	}
	for i := depth - 1; i >= 0; i-- {
		want.WriteString(strings.Repeat("  ", i) + "}\n")
	}
	expect(nested(depth-1, node(api.KWhile, 0, yes, empty), func(n api.Node) api.Node { return node(api.KWhile, 0, yes, block(n)) }), want.String())
}
