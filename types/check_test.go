package types_test

import (
	"math"
	"math/rand"
	"slices"
	"strings"
	"testing"

	"scoria/api"
	"scoria/text"
	"scoria/tree"
	"scoria/types"
)

// expectCheck expects a place and an error of a program.
func expectCheck(t *testing.T, p api.Node, path []int, e api.Errno, promise string) {
	t.Helper()
	gotPath, got := types.Check(p)
	if got != e || !slices.Equal(gotPath, path) {
		t.Errorf("%s: %v %d instead of %v %d for %s %v", promise, gotPath, got, path, e, text.Print(p), p)
	}
}

// expectPlain expects what the plain version of the chapter says.
func expectPlain(t *testing.T, p api.Node) {
	t.Helper()
	path, e := plainCheck(p)
	expectCheck(t, p, path, e, "P7.1")
}

// The examples at the end of the chapter.
func TestExamples(t *testing.T) {
	for _, x := range []struct {
		statement api.Node
		path      []int
		e         api.Errno
	}{
		{node(api.KSet, 0, node(api.KElem, 1, node(api.KVar, 0))), nil, api.OK},
		{node(api.KSet, 1, num), []int{0, 2, 0}, api.ErrType},
		{node(api.KSet, 0, node(api.KVar, 2)), []int{0, 2, 0, 0}, api.ErrRange},
		{node(api.KSet, 0, yes), []int{0, 2, 0}, api.ErrType},
		{node(api.KOut, 0, node(api.KRecv, 0)), []int{0, 2, 0, 0}, api.ErrRange},
	} {
		p := node(api.KProg, 0, node(api.KFun, 1, word, node(api.KArr, 2), node(api.KBlock, 0, x.statement)))
		expectCheck(t, p, x.path, x.e, "P7.1, example")
	}
}

// scene is a program in whose function 1 a statement stands: its variables 0 and 1 are parameters. The functions 0 and 2 have other ones.
func scene(t *testing.T, statement string) api.Node {
	t.Helper()
	return parse(t, `program 2
fun 1 (int, int, bool) { return 0 }
fun 2 (int, bool, arr 2, rec (int, bool), bool) { `+statement+` }
fun 3 (bool, bool, int) { skip }`)
}

// rowCases has statements for the rows of the table, column by column. The place of the error is that of the n-th node, in preorder, of the statement; it has none, if n is -1.
var rowCases = []struct {
	statement string
	n         int
	e         api.Errno
}{
	// KVar: there is no variable; it is an array or a record.
	{"out v0", -1, api.OK}, {"v4 = v1", -1, api.OK}, {"v1 = v4", -1, api.OK},
	{"out v5", 1, api.ErrRange}, {"v1 = v5", 1, api.ErrRange}, {"out v2", 1, api.ErrType}, {"v1 = v3", 1, api.ErrType},
	// KElem: there is no variable; it is no array; the index is no word.
	{"out v2[0]", -1, api.OK}, {"out v2[v0]", -1, api.OK}, {"out v2[7]", -1, api.OK}, {"out v2[v2[v2[0]]]", -1, api.OK},
	{"out v5[0]", 1, api.ErrRange}, {"out v0[0]", 1, api.ErrType}, {"out v1[0]", 1, api.ErrType}, {"out v3[0]", 1, api.ErrType},
	{"out v2[v1]", 1, api.ErrType}, {"out v2[v5]", 2, api.ErrRange}, {"out v2[v3]", 2, api.ErrType}, {"out v2[v2[true]]", 2, api.ErrType},
	{"out v5[true]", 1, api.ErrRange}, {"out v0[v5]", 1, api.ErrType},
	// KField: there is no variable, or no field; it is no record.
	{"out v3.0", -1, api.OK}, {"v1 = v3.1", -1, api.OK},
	{"out v5.0", 1, api.ErrRange}, {"out v3.2", 1, api.ErrRange}, {"out v0.0", 1, api.ErrType}, {"out v1.2", 1, api.ErrType}, {"out v2.2", 1, api.ErrType}, {"out v3.1", 0, api.ErrType},
	// KBin: both kids.
	{"out (v0 + 1)", -1, api.OK}, {"out (v3.0 >> v2[1])", -1, api.OK}, {"v1 = (v0 == 1)", -1, api.OK}, {"v1 = (v1 && v4)", -1, api.OK}, {"v1 = (v3.1 || (1 < 2))", -1, api.OK},
	{"out (v1 + 1)", 1, api.ErrType}, {"out (1 % v1)", 1, api.ErrType}, {"v1 = (v1 == v1)", 1, api.ErrType}, {"v1 = (v1 < 1)", 1, api.ErrType}, {"v1 = (v1 && 1)", 1, api.ErrType}, {"v1 = (1 || v1)", 1, api.ErrType},
	{"out (1 == 1)", 0, api.ErrType}, {"v1 = (1 + 1)", 0, api.ErrType}, {"v0 = (v1 && v1)", 0, api.ErrType}, {"v1 = (1 >> 1)", 0, api.ErrType},
	{"out (v5 + 1)", 2, api.ErrRange}, {"out (1 + v2)", 3, api.ErrType}, {"out (v5 + true)", 1, api.ErrType}, {"v1 = (v2 || v5)", 2, api.ErrType},
	// KNot.
	{"v1 = !v1", -1, api.OK}, {"v1 = !!(1 < 2)", -1, api.OK}, {"v1 = !1", 1, api.ErrType}, {"v1 = !v5", 2, api.ErrRange}, {"out !v1", 0, api.ErrType}, {"v1 = !!0", 2, api.ErrType}, {"v1 = !v2", 2, api.ErrType},
	// KCall: there is no function; as many kids as parameters, of these types.
	{"out f0(1)", -1, api.OK}, {"out f1(1, true)", -1, api.OK}, {"out f2(v1, !v1, f0(0))", -1, api.OK},
	{"out f3()", 1, api.ErrRange}, {"out f3(1, true)", 1, api.ErrRange}, {"out f5(v5)", 1, api.ErrRange},
	{"out f0()", 1, api.ErrType}, {"out f0(1, 1)", 1, api.ErrType}, {"out f0(1, 1, true)", 1, api.ErrType}, {"out f1()", 1, api.ErrType}, {"out f1(1)", 1, api.ErrType}, {"out f1(1, true, 1)", 1, api.ErrType}, {"out f2(true, true)", 1, api.ErrType},
	{"out f0(true)", 1, api.ErrType}, {"out f1(1, 1)", 1, api.ErrType}, {"out f1(true, true)", 1, api.ErrType}, {"out f2(true, true, true)", 1, api.ErrType}, {"out f2(true, 1, 1)", 1, api.ErrType},
	{"out f0(v5)", 2, api.ErrRange}, {"out f1(v2, v5)", 2, api.ErrType}, {"out f0(v5, 1)", 1, api.ErrType}, {"out f2(true, v5, v2)", 3, api.ErrRange}, {"v1 = f0(1)", 0, api.ErrType},
	// KSpawn, in the same way.
	{"spawn f0(1)", -1, api.OK}, {"spawn f1(v0, v1)", -1, api.OK}, {"spawn f2(v1, v4, v0)", -1, api.OK},
	{"spawn f3()", 0, api.ErrRange}, {"spawn f5(1)", 0, api.ErrRange}, {"spawn f3(v5)", 0, api.ErrRange},
	{"spawn f0()", 0, api.ErrType}, {"spawn f0(1, 1, true)", 0, api.ErrType}, {"spawn f1(1, true, true)", 0, api.ErrType}, {"spawn f2()", 0, api.ErrType},
	{"spawn f0(true)", 0, api.ErrType}, {"spawn f1(1, 0)", 0, api.ErrType}, {"spawn f2(true, true, false)", 0, api.ErrType}, {"spawn f1(v5, v5)", 1, api.ErrRange}, {"spawn f1(1, v3)", 2, api.ErrType},
	// KRecv, KSend: there is no channel; what is sent is no word.
	{"out recv c0", -1, api.OK}, {"out recv c1", -1, api.OK}, {"out recv c2", 1, api.ErrRange}, {"v1 = recv c1", 0, api.ErrType}, {"v1 = recv c2", 0, api.ErrType},
	{"send c0 1", -1, api.OK}, {"send c1 recv c0", -1, api.OK}, {"send c2 1", 0, api.ErrRange}, {"send c2 true", 0, api.ErrRange}, {"send c1 true", 0, api.ErrType}, {"send c1 v5", 1, api.ErrRange}, {"send c0 v2", 1, api.ErrType},
	// KSet: there is no variable; it is an array or a record; the value does not have its type.
	{"v0 = 1", -1, api.OK}, {"v4 = true", -1, api.OK}, {"v5 = 1", 0, api.ErrRange}, {"v5 = v5", 0, api.ErrRange}, {"v2 = 1", 0, api.ErrType}, {"v3 = true", 0, api.ErrType}, {"v2 = v2", 0, api.ErrType}, {"v3 = v3", 0, api.ErrType},
	{"v0 = v1", 0, api.ErrType}, {"v1 = v0", 0, api.ErrType}, {"v0 = v2", 1, api.ErrType}, {"v1 = v5", 1, api.ErrRange},
	// KPut: there is no variable; it is no array; both kids are words.
	{"v2[0] = 1", -1, api.OK}, {"v2[v2[0]] = v3.0", -1, api.OK}, {"v5[0] = 1", 0, api.ErrRange}, {"v0[0] = 1", 0, api.ErrType}, {"v1[0] = true", 0, api.ErrType}, {"v3[0] = 1", 0, api.ErrType},
	{"v2[true] = 1", 0, api.ErrType}, {"v2[0] = true", 0, api.ErrType}, {"v2[v5] = true", 0, api.ErrType}, {"v2[v5] = v2", 1, api.ErrRange}, {"v2[0] = v5", 2, api.ErrRange},
	// KFill: there is no variable, or no field; it is no record; the value does not have the type of the field.
	{"v3.0 = 1", -1, api.OK}, {"v3.1 = v1", -1, api.OK}, {"v5.0 = 1", 0, api.ErrRange}, {"v3.2 = 1", 0, api.ErrRange}, {"v0.0 = 1", 0, api.ErrType}, {"v1.2 = true", 0, api.ErrType}, {"v2.2 = 1", 0, api.ErrType},
	{"v3.0 = true", 0, api.ErrType}, {"v3.1 = 1", 0, api.ErrType}, {"v3.1 = v5", 1, api.ErrRange}, {"v3.2 = v5", 0, api.ErrRange},
	// KIf, KWhile: the first kid.
	{"if v1 { } else { }", -1, api.OK}, {"if 1 { } else { }", 0, api.ErrType}, {"if v5 { } else { }", 1, api.ErrRange}, {"if v1 { out v5 } else { }", 4, api.ErrRange}, {"if v1 { } else { out true }", 4, api.ErrType}, {"if 1 { out v5 } else { }", 0, api.ErrType},
	{"while v1 { }", -1, api.OK}, {"while v0 { }", 0, api.ErrType}, {"while v2 { }", 1, api.ErrType}, {"while v1 { while 0 { } }", 3, api.ErrType},
	// KReturn, KThrow, KOut.
	{"return v0", -1, api.OK}, {"return v1", 0, api.ErrType}, {"return v5", 1, api.ErrRange}, {"throw v0", -1, api.OK}, {"throw v1", 0, api.ErrType}, {"throw v3", 1, api.ErrType}, {"out v0", -1, api.OK}, {"out v1", 0, api.ErrType}, {"out v5", 1, api.ErrRange},
	// KTry: there is no variable; it holds no word.
	{"try { } catch v0 { }", -1, api.OK}, {"try { } catch v5 { }", 0, api.ErrRange}, {"try { } catch v1 { }", 0, api.ErrType}, {"try { } catch v2 { }", 0, api.ErrType}, {"try { } catch v3 { }", 0, api.ErrType}, {"try { } catch v4 { }", 0, api.ErrType},
	{"try { out v1 } catch v0 { }", 2, api.ErrType}, {"try { } catch v0 { throw v5 }", 4, api.ErrRange}, {"try { out v5 } catch v1 { }", 0, api.ErrType},
	// Nothing can be wrong with these.
	{"skip", -1, api.OK}, {"{ }", -1, api.OK}, {"{ { skip } skip }", -1, api.OK}, {"out -8", -1, api.OK}, {"v1 = false", -1, api.OK},
}

// P7.1: the rows of the table.
func TestCheckRows(t *testing.T) {
	for _, x := range rowCases {
		p := scene(t, x.statement)
		var path []int
		if x.n >= 0 {
			path = slices.Concat([]int{1, 5, 0}, tree.Paths(p.Kids[1].Kids[5].Kids[0])[x.n])
		}
		expectCheck(t, p, path, x.e, "P7.1")
	}
}

// P7.1: nothing is wrong in a program with all kinds of nodes.
func TestCheckNothing(t *testing.T) {
	p := parse(t, `program 3
fun 0 (rec (bool, int, bool), arr 1) {
  v1[0] = f1(1, true, v0.1)
  v0.2 = ((v0.1 < 3) || !v0.0)
  spawn f2(recv c2)
  while v0.2 { send c0 v1[v0.1] skip }
  return f0()
}
fun 3 (int, bool, int, int, bool, rec (int)) {
  try { if v4 { v4 = !v1 } else { v5.0 = (v0 * v2) } } catch v3 { throw v3 }
  { out (f2(v3) << recv c1) }
}
fun 1 (int, arr 4) { v0 = v1[v1[-1]] }`)
	expectCheck(t, p, nil, api.OK, "P7.1")
	seen := map[int]bool{}
	for _, path := range tree.Paths(p) {
		seen[at(t, p, path).Kind] = true
	}
	for kind := range api.KAny {
		if !seen[kind] {
			t.Errorf("P7.1: the kind %d is missing", kind)
		}
	}
}

// P7.1: of several wrong nodes, above, below and beside each other, the first one in preorder counts.
func TestCheckFirst(t *testing.T) {
	for _, x := range []struct {
		s    string
		path []int
		e    api.Errno
	}{
		// Beside each other, in one statement and in several ones.
		{"program 0 fun 0 () { out (v0 + recv c0) }", []int{0, 0, 0, 0, 0}, api.ErrRange},
		{"program 0 fun 1 (int, arr 1) { out (v1 + v2) }", []int{0, 2, 0, 0, 0}, api.ErrType},
		{"program 0 fun 1 (int, arr 1) { out (v2 + v1) }", []int{0, 2, 0, 0, 0}, api.ErrRange},
		{"program 0 fun 1 (int) { skip out true out v1 }", []int{0, 1, 1}, api.ErrType},
		{"program 0 fun 1 (int) { skip out v1 out true }", []int{0, 1, 1, 0}, api.ErrRange},
		// Above each other.
		{"program 0 fun 1 (int) { while 0 { out v1 } }", []int{0, 1, 0}, api.ErrType},
		{"program 0 fun 1 (int) { v1 = v1 }", []int{0, 1, 0}, api.ErrRange},
		{"program 0 fun 1 (int) { v0 = !(true + true) }", []int{0, 1, 0}, api.ErrType},
		{"program 0 fun 1 (bool) { v0 = !(true + true) }", []int{0, 1, 0, 0}, api.ErrType},
		{"program 0 fun 1 (int) { v0 = (true + (v5 + 1)) }", []int{0, 1, 0, 0}, api.ErrType},
		{"program 0 fun 1 (int) { v0 = (1 + (v5 + true)) }", []int{0, 1, 0, 0, 1}, api.ErrType},
		{"program 0 fun 1 (int) { v0 = (1 + (v5 + 1)) }", []int{0, 1, 0, 0, 1, 0}, api.ErrRange},
		{"program 0 fun 1 (int) { out (((v0 + v1) + v0) + true) }", []int{0, 1, 0, 0}, api.ErrType},
		{"program 0 fun 1 (int) { out (((v0 + v1) + true) + v0) }", []int{0, 1, 0, 0, 0}, api.ErrType},
		{"program 0 fun 1 (int) { out (((v0 + v1) + v0) + v2) }", []int{0, 1, 0, 0, 0, 0, 1}, api.ErrRange},
		// In the first function, and in others; each has variables of its own.
		{"program 0 fun 1 (int) { out v1 } fun 0 () { out true }", []int{0, 1, 0, 0}, api.ErrRange},
		{"program 0 fun 1 (int) { out v0 } fun 0 () { out v0 }", []int{1, 0, 0, 0}, api.ErrRange},
		{"program 0 fun 1 (int) { out v0 } fun 0 (int, bool) { out v1 } fun 0 () { out true }", []int{1, 2, 0}, api.ErrType},
		{"program 0 fun 0 () { } fun 0 () { } fun 0 () { } fun 0 () { } fun 0 () { } fun 0 (bool) { skip throw v0 }", []int{5, 1, 1}, api.ErrType},
		// Behind much in which nothing is wrong.
		{"program 1 fun 1 (int, bool, arr 2) { if v1 { v2[v0] = (v0 + v2[1]) { skip skip send c0 f0(1) } } else { while !v1 { out v0 } } v0 = v1 }", []int{0, 3, 1}, api.ErrType},
		{"program 1 fun 1 (int, bool, arr 2) { if v1 { v2[v0] = (v0 + v2[1]) { skip skip send c0 f0(1) } } else { while !v1 { out v3 } } v0 = v1 }", []int{0, 3, 0, 2, 0, 1, 0, 0}, api.ErrRange},
	} {
		expectCheck(t, parse(t, x.s), x.path, x.e, "P7.1")
	}
}

// wrongOnes are statements that are wrong in the function of scene, with the places of the errors below them.
var wrongOnes = []struct {
	statement string
	path      []int
	e         api.Errno
}{
	{"out v5", []int{0}, api.ErrRange}, {"out true", nil, api.ErrType}, {"v1 = !!3", []int{0, 0}, api.ErrType}, {"spawn f3()", nil, api.ErrRange}, {"out (1 + v2[v4])", []int{0, 1}, api.ErrType},
}

// P7.1: two wrong statements, in all orders and in blocks of all kinds.
func TestCheckTwoWrong(t *testing.T) {
	for _, a := range wrongOnes {
		for _, b := range wrongOnes {
			for _, x := range []struct {
				s    string
				path []int
			}{
				{"A B", []int{0}}, {"skip A skip B", []int{1}}, {"{ A } B", []int{0, 0}}, {"{ { skip A } } { B }", []int{0, 0, 1}}, {"if true { A } else { B }", []int{0, 1, 0}}, {"if true { } else { A } B", []int{0, 2, 0}},
				{"while true { A B }", []int{0, 1, 0}}, {"try { A } catch v0 { B }", []int{0, 0, 0}}, {"try { } catch v0 { A } B", []int{0, 1, 0}}, {"if true { try { } catch v0 { skip skip A } } else { B }", []int{0, 1, 0, 1, 2}},
			} {
				p := scene(t, strings.NewReplacer("A", a.statement, "B", b.statement).Replace(x.s))
				expectCheck(t, p, slices.Concat([]int{1, 5}, x.path, a.path), a.e, "P7.1")
			}
		}
	}
}

// someTypes has types of variables of each kind.
func someTypes() []api.Node {
	return []api.Node{
		word, truth, node(api.KArr, 1), node(api.KArr, 4),
		node(api.KRec, 0, word), node(api.KRec, 0, truth), node(api.KRec, 0, truth, word), node(api.KRec, 0, word, truth), node(api.KRec, 0, word, truth, word), node(api.KRec, 0, truth, truth, truth),
	}
}

// inFunction is a program whose only function has some variables, no parameters, and a statement.
func inFunction(vars []api.Node, statement api.Node) api.Node {
	return node(api.KProg, 0, node(api.KFun, 0, append(slices.Clone(vars), node(api.KBlock, 0, statement))...))
}

// asStatement is a statement, or one with an expression.
func asStatement(n api.Node) api.Node {
	if slices.Contains(expressions, n.Kind) {
		return node(api.KOut, 0, n)
	}
	return n
}

// kidLists are lists of kids of a kind of node: all lists of expressions that are words, truth values and without a type, and blocks.
func kidLists(kind int) [][]api.Node {
	lists := [][]api.Node{{}}
	for _, kid := range minimal(kind).Kids {
		options := []api.Node{num, yes, node(api.KVar, 5)}
		if kid.Kind == api.KBlock {
			options = []api.Node{empty}
		}
		var longer [][]api.Node
		for _, l := range lists {
			for _, x := range options {
				longer = append(longer, slices.Concat(l, []api.Node{x}))
			}
		}
		lists = longer
	}
	return lists
}

// P7.1: each node that names a variable, for all lists of up to two variables and for some longer ones, with each number and each field, and kids of each type.
func TestCheckVariables(t *testing.T) {
	lists := [][]api.Node{nil}
	for _, a := range someTypes() {
		lists = append(lists, []api.Node{a})
		for _, b := range someTypes() {
			lists = append(lists, []api.Node{a, b})
		}
		lists = append(lists, append(slices.Repeat([]api.Node{word}, 4), a), append(slices.Repeat([]api.Node{truth}, 5), a))
	}
	for _, kind := range []int{api.KVar, api.KElem, api.KField, api.KSet, api.KPut, api.KFill, api.KTry} {
		fields := 1
		if kind == api.KField || kind == api.KFill {
			fields = 3
		}
		for _, vars := range lists {
			for n := range 6 {
				for m := range fields {
					for _, kids := range kidLists(kind) {
						expectPlain(t, inFunction(vars, asStatement(field(kind, n, m, kids...))))
					}
				}
			}
		}
	}
}

// P7.1: calls and spawns in each function, of each one that exists and of others, with all lists of up to three arguments that are words, truth values and without a type.
func TestCheckCalls(t *testing.T) {
	heads := [][]api.Node{{word}, {}, {truth, word}, {word, truth, truth}, {truth}, {word, word}}
	lists := [][]api.Node{{}}
	for i := 0; i < len(lists); i++ {
		if len(lists[i]) < 3 {
			for _, x := range []api.Node{num, yes, node(api.KVar, 5)} {
				lists = append(lists, slices.Concat(lists[i], []api.Node{x}))
			}
		}
	}
	for shift := range heads {
		for count := 1; count <= 6; count++ {
			p := node(api.KProg, 0)
			for f := range count {
				head := heads[(f+shift)%len(heads)]
				// There are variables behind the parameters, too.
				p.Kids = append(p.Kids, node(api.KFun, len(head), slices.Concat(head, someTypes()[f:f+2], []api.Node{empty})...))
			}
			for caller := range count {
				for called := range 6 {
					for _, l := range lists {
						for _, x := range []api.Node{node(api.KCall, called, l...), node(api.KSpawn, called, l...)} {
							q := copyOf(p)
							kids := q.Kids[caller].Kids
							kids[len(kids)-1] = node(api.KBlock, 0, asStatement(x))
							expectPlain(t, q)
						}
					}
				}
			}
		}
	}
}

// P7.1: each number of channels, with each number of a channel.
func TestCheckChannels(t *testing.T) {
	for chans := range 4 {
		for c := range 3 {
			recv := inFunction(nil, node(api.KOut, 0, node(api.KRecv, c)))
			send := inFunction(nil, node(api.KSend, c, num))
			recv.N, send.N = chans, chans
			if c < chans {
				expectCheck(t, recv, nil, api.OK, "P7.1")
				expectCheck(t, send, nil, api.OK, "P7.1")
			} else {
				expectCheck(t, recv, []int{0, 0, 0, 0}, api.ErrRange, "P7.1")
				expectCheck(t, send, []int{0, 0, 0}, api.ErrRange, "P7.1")
			}
		}
	}
}

// someExpressions has expressions of each kind, without and with errors, for a function with the variables of scene.
func someExpressions() []api.Node {
	l := []api.Node{
		num, yes, node(api.KTruth, 0),
		field(api.KField, 3, 0), field(api.KField, 3, 1), field(api.KField, 3, 2), field(api.KField, 0, 0), field(api.KField, 5, 1),
		node(api.KElem, 2, num), node(api.KElem, 2, yes), node(api.KElem, 0, num), node(api.KElem, 5, num),
		node(api.KNot, 0, yes), node(api.KNot, 0, num), node(api.KNot, 0, node(api.KVar, 5)),
		node(api.KCall, 0, num), node(api.KCall, 0), node(api.KCall, 0, yes), node(api.KCall, 4), node(api.KCall, 1, num, yes),
	}
	for n := range 6 {
		l = append(l, node(api.KVar, n), node(api.KRecv, n%3))
	}
	for op := range api.Bins {
		l = append(l, node(api.KBin, op, num, num), node(api.KBin, op, yes, yes), node(api.KBin, op, num, node(api.KVar, 2)))
	}
	return l
}

// P7.1: each expression in the place of each kid of each node, and each pair of them below operations.
func TestCheckExpressions(t *testing.T) {
	p := scene(t, "skip")
	for _, kind := range slices.Concat(expressions, statements) {
		ops := 1
		if kind == api.KBin {
			ops = api.Bins
		}
		for op := range ops {
			for i, kid := range minimal(kind).Kids {
				for _, x := range someExpressions() {
					n := copyOf(minimal(kind))
					n.N = op
					if kind == api.KElem || kind == api.KPut {
						n.N = 2
					} else if kind == api.KFill {
						n.N = 3
					}
					if kid.Kind == api.KBlock {
						x = node(api.KBlock, 0, asStatement(x))
					}
					n.Kids[i] = x
					expectPlain(t, with(t, p, []int{1, 5, 0}, asStatement(n)))
				}
			}
		}
	}
	for _, op := range []int{api.Add, api.Shr, api.Less, api.Same, api.Both, api.Some} {
		for _, a := range someExpressions() {
			for _, b := range someExpressions() {
				expectPlain(t, with(t, p, []int{1, 5, 0}, node(api.KOut, 0, node(api.KBin, op, a, b))))
			}
		}
	}
}

// P7.1: programs that are not valid, and trees that are none.
func TestCheckForm(t *testing.T) {
	p := scene(t, "out v0")
	l := []api.Node{
		{}, num, empty, node(api.KProg, 0), node(api.KProg, 4, p.Kids...), node(api.KProg, -1, p.Kids...), field(api.KProg, 0, 1, p.Kids...),
		p.Kids[0], node(api.KAny, 0, p), node(api.KProg, 0, p), node(api.KProg, 0, empty), node(-1, 0, p.Kids...), node(api.Kinds, 0, p.Kids...),
		node(api.KProg, 0, slices.Repeat(p.Kids, 3)...), {Kind: math.MinInt, N: math.MaxInt, M: math.MinInt},
		node(api.KProg, 0, node(api.KFun, 1, empty)), node(api.KProg, 0, node(api.KFun, 1, node(api.KArr, 1), empty)), node(api.KProg, 0, node(api.KFun, 0, word)),
		node(api.KProg, 0, node(api.KFun, 2, word, empty)), node(api.KProg, 0, node(api.KFun, 0, append(slices.Repeat([]api.Node{word}, 7), empty)...)),
	}
	for _, x := range []api.Node{num, node(api.KOut, 0), node(api.KOut, 0, num, num), node(api.KOut, 1, num), node(api.KOut, 0, empty), node(api.KOut, 0, node(api.KNum, 8)), node(api.KOut, 0, node(api.KVar, 6)), node(api.KOut, 0, node(api.KVar, -1)), node(api.KSet, -1, num), node(api.KSet, 6, num), field(api.KFill, 3, 3, num), field(api.KFill, 3, -1, num), node(api.KSpawn, 6), node(api.KSpawn, -1), node(api.KSpawn, 0, num, num, num, num), node(api.KSend, 3, num), node(api.KSend, -1, num), node(api.KIf, 0, yes, empty), node(api.KOut, 0, node(api.KBin, api.Bins, num, num)), node(api.KOut, 0, node(api.KBin, -1, num, num)), node(api.KOut, 0, node(api.KAny, 0)), node(api.KOut, 0, node(api.KCond, 0, yes, num, num)), node(api.KTry, math.MinInt, empty, empty), node(api.KTry, math.MaxInt, empty, empty)} {
		l = append(l, with(t, p, []int{1, 5, 0}, x))
	}
	// What is not valid stands behind what is wrong.
	wrong := scene(t, "out v5 skip")
	l = append(l, with(t, wrong, []int{1, 5, 1}, node(api.KOut, 0)), with(t, wrong, []int{2, 3, 0}, node(api.KSkip, 1)))
	for _, n := range l {
		expectCheck(t, n, nil, api.ErrForm, "P7.1")
	}
}

// chain is a negation of a negation and so on, with a given depth.
func chain(depth int, last api.Node) api.Node {
	n := last
	for range depth - 1 {
		n = node(api.KNot, 0, n)
	}
	return n
}

// filled is a program with a given number of nodes, whose last statement is given; all other ones are blocks and KSkip.
func filled(size int, last api.Node) api.Node {
	p := node(api.KProg, 0)
	left := size - 3 - tree.Size(last)
	for left > 0 {
		count := min(left, 74)
		if left-count == 1 {
			count--
		}
		left -= count
		body := node(api.KBlock, 0)
		for count -= 2; count > 0; count -= min(count, 9) {
			body.Kids = append(body.Kids, node(api.KBlock, 0, slices.Repeat([]api.Node{node(api.KSkip, 0)}, min(count, 9)-1)...))
		}
		p.Kids = append(p.Kids, node(api.KFun, 0, body))
	}
	p.Kids = append(p.Kids, node(api.KFun, 0, node(api.KBlock, 0, last)))
	return p
}

// P7.1: programs that are just small and flat enough to be valid, and such that are not; with a wrong node at their end, or without.
func TestCheckLimits(t *testing.T) {
	for depth := 10; depth <= 30; depth++ {
		// Around the expression there are the program, the function, the block and the statement.
		right := inFunction(nil, node(api.KIf, 0, chain(depth, yes), empty, empty))
		wrong := inFunction(nil, node(api.KIf, 0, chain(depth, node(api.KVar, 0)), empty, empty))
		if depth+4 > 16 {
			expectCheck(t, right, nil, api.ErrForm, "P7.1")
			expectCheck(t, wrong, nil, api.ErrForm, "P7.1")
			continue
		}
		expectCheck(t, right, nil, api.OK, "P7.1")
		expectCheck(t, wrong, make([]int, depth+3), api.ErrRange, "P7.1")
	}
	for size := 240; size <= 270; size++ {
		right, wrong := filled(size, node(api.KOut, 0, num)), filled(size, node(api.KOut, 0, yes))
		if tree.Size(right) != size {
			t.Fatalf("P7.1: %d nodes in the place of %d", tree.Size(right), size)
		}
		if size > 256 {
			expectCheck(t, right, nil, api.ErrForm, "P7.1")
			expectCheck(t, wrong, nil, api.ErrForm, "P7.1")
			continue
		}
		expectCheck(t, right, nil, api.OK, "P7.1")
		expectCheck(t, wrong, []int{len(wrong.Kids) - 1, 0, 0}, api.ErrType, "P7.1")
	}
	for _, depth := range []int{1 << 10, 1 << 16} {
		expectCheck(t, inFunction(nil, node(api.KOut, 0, chain(depth, node(api.KVar, 0)))), nil, api.ErrForm, "P7.1")
		expectCheck(t, chain(depth, yes), nil, api.ErrForm, "P7.1")
	}
}

// P7.1: many programs in which nothing is wrong, and such that differ from them in one or two nodes; and programs in which most is wrong.
func TestCheckAnyProgram(t *testing.T) {
	r := rand.New(rand.NewSource(71))
	errors := map[api.Errno]int{}
	for range 600 {
		expectPlain(t, anyProgram(r, true))
		p := anyProgram(r, false)
		expectCheck(t, p, nil, api.OK, "P7.1")
		paths := tree.Paths(p)
		for range 20 {
			q := copyOf(p)
			for range 1 + r.Intn(2) {
				q = changed(t, r, q, paths[r.Intn(len(paths))])
			}
			expectPlain(t, q)
			_, e := types.Check(q)
			errors[e]++
		}
	}
	for _, e := range []api.Errno{api.OK, api.ErrForm, api.ErrRange, api.ErrType} {
		if errors[e] < 300 {
			t.Errorf("P7.1: only %d of the programs have the error %d", errors[e], e)
		}
	}
}

// changed is a program with another number or kind of a node, or with another expression in its place, if the place is still there.
func changed(t *testing.T, r *rand.Rand, p api.Node, path []int) api.Node {
	x, ok := tree.At(p, path)
	if !ok {
		return p
	}
	switch r.Intn(6) {
	case 0:
		x.N = max(0, x.N+r.Intn(3)-1)
	case 1:
		x.N = r.Intn(6)
	case 2:
		x.M = r.Intn(3)
	case 3:
		if len(x.Kids) > 0 {
			x.Kids = slices.Delete(x.Kids, r.Intn(len(x.Kids)), len(x.Kids))
		}
	case 4:
		if i := slices.Index(expressions, x.Kind); i >= 0 {
			x.Kind = expressions[r.Intn(len(expressions))]
		} else {
			x.Kids = append(x.Kids, node(api.KVar, r.Intn(6)))
		}
	case 5:
		if slices.Contains(expressions, x.Kind) {
			x = someExpressions()[r.Intn(len(someExpressions()))]
		}
	}
	return with(t, p, path, x)
}
