package compile_test

import (
	"math"
	"math/rand"
	"slices"
	"strconv"
	"testing"

	"scoria/api"
	"scoria/compile"
	"scoria/text"
	"scoria/tree"
	"scoria/types"
)

// scene is a program with statements in its function 0, whose block has the number 11, and the first statement 12. Its variables begin at the words 0, 1, 2, 5, 8 and 9.
func scene(t *testing.T, statements string) api.Node {
	t.Helper()
	return parse(t, `program 3
fun 2 (int, bool, arr 3, rec (bool, int, bool), int, arr 2) { `+statements+` }
fun 0 () { return 0 }
fun 3 (bool, int, bool) { skip }`)
}

// rowCases has statements in the function 0 of scene, with the instructions of all of them.
var rowCases = []struct{ statements, want string }{
	{"", ""},
	// KNum, KTruth, KVar, KSet.
	{"v0 = 7", "push 7:13, store 0:12"},
	{"v4 = -8", "push -8:13, store 8:12"},
	{"v1 = true", "push 1:13, store 1:12"},
	{"v1 = false", "push 0:13, store 1:12"},
	{"v4 = v0", "load 0:13, store 8:12"},
	{"v1 = v1", "load 1:13, store 1:12"},
	// KElem, KField.
	{"out v2[v4]", "load 8:14, elem 2 3:13, out:12"},
	{"out v5[1]", "push 1:14, elem 9 2:13, out:12"},
	{"out v2[v5[v2[7]]]", "push 7:16, elem 2 3:15, elem 9 2:14, elem 2 3:13, out:12"},
	{"v1 = v3.0", "load 5:13, store 1:12"},
	{"v0 = v3.1", "load 6:13, store 0:12"},
	{"v1 = v3.2", "load 7:13, store 1:12"},
	// KBin, KNot.
	{"out (v0 + v4)", "load 0:14, load 8:15, op 0:13, out:12"},
	{"out ((v0 - v4) * (v4 % 3))", "load 0:15, load 8:16, op 1:14, load 8:18, push 3:19, op 4:17, op 2:13, out:12"},
	{"out (v0 - (v4 - (3 - v0)))", "load 0:14, load 8:16, push 3:18, load 0:19, op 1:17, op 1:15, op 1:13, out:12"},
	{"v1 = ((v0 < 1) || (v1 && v3.0))", "load 0:15, push 1:16, op 10:14, load 1:18, load 5:19, op 12:17, op 13:13, store 1:12"},
	{"v1 = !v3.0", "load 5:14, not:13, store 1:12"},
	{"v1 = !!(v0 == v0)", "load 0:16, load 0:17, op 11:15, not:14, not:13, store 1:12"},
	// KCall, KSpawn.
	{"out f1()", "call 1 0:13, out:12"},
	{"out f0(f1(), true)", "call 1 0:14, push 1:15, call 0 2:13, out:12"},
	{"out f2(v1, v0, !v1)", "load 1:14, load 0:15, load 1:17, not:16, call 2 3:13, out:12"},
	{"out f2(true, f2(false, 5, v1), true)", "push 1:14, push 0:16, push 5:17, load 1:18, call 2 3:15, push 1:19, call 2 3:13, out:12"},
	{"spawn f1()", "spawn 1 0:12"},
	{"spawn f0(v4, v1)", "load 8:13, load 1:14, spawn 0 2:12"},
	{"spawn f2(true, v2[0], false)", "push 1:13, push 0:15, elem 2 3:14, push 0:16, spawn 2 3:12"},
	// KRecv, KSend.
	{"out recv c2", "recv 2:13, out:12"},
	{"v0 = recv c0", "recv 0:13, store 0:12"},
	{"send c1 v0", "load 0:13, send 1:12"},
	{"send c2 recv c1", "recv 1:13, send 2:12"},
	// KPut, KFill.
	{"v2[v4] = recv c0", "load 8:13, recv 0:14, put 2 3:12"},
	{"v5[0] = v2[1]", "push 0:13, push 1:15, elem 2 3:14, put 9 2:12"},
	{"v3.0 = v1", "load 1:13, store 5:12"},
	{"v3.1 = v0", "load 0:13, store 6:12"},
	{"v3.2 = true", "push 1:13, store 7:12"},
	// KReturn, KThrow, KOut, KSkip, KBlock.
	{"return v0", "load 0:13, return:12"},
	{"throw v4", "load 8:13, throw:12"},
	{"out -1", "push -1:13, out:12"},
	{"skip", ""},
	{"{ }", ""},
	{"{ out 1 { out 2 } skip }", "push 1:14, out:13, push 2:17, out:16"},
	{"out 1 skip out 2", "push 1:13, out:12, push 2:16, out:15"},
	// KIf.
	{"if v1 { out 1 } else { out 2 }", "load 1:13, false 5:12, push 1:16, out:15, jump 7:12, push 2:19, out:18"},
	{"if v1 { } else { }", "load 1:13, false 3:12, jump 3:12"},
	{"if v1 { out 1 } else { }", "load 1:13, false 5:12, push 1:16, out:15, jump 5:12"},
	{"if v1 { } else { out 2 }", "load 1:13, false 3:12, jump 5:12, push 2:17, out:16"},
	{"if !v1 { if v1 { skip } else { } } else { if v3.0 { } else { out 1 } } out 2", "load 1:14, not:13, false 7:12, load 1:17, false 6:16, jump 6:16, jump 12:12, load 5:23, false 10:22, jump 12:22, push 1:27, out:26, push 2:29, out:28"},
	// KWhile.
	{"while v1 { out 1 }", "load 1:13, false 5:12, push 1:16, out:15, jump 0:12"},
	{"while true { }", "push 1:13, false 3:12, jump 0:12"},
	{"out 1 while !v1 { }", "push 1:13, out:12, load 1:16, not:15, false 6:14, jump 2:14"},
	{"while v1 { while v3.0 { out 1 } } skip out 2", "load 1:13, false 8:12, load 5:16, false 7:15, push 1:19, out:18, jump 2:15, jump 0:12, push 2:22, out:21"},
	// KTry.
	{"try { out 1 } catch v4 { out v4 }", "try 5 8:12, push 1:15, out:14, done:12, jump 7:12, load 8:18, out:17"},
	{"try { } catch v0 { }", "try 3 0:12, done:12, jump 3:12"},
	{"try { throw 1 } catch v4 { }", "try 5 8:12, push 1:15, throw:14, done:12, jump 5:12"},
	{"try { } catch v4 { throw v4 }", "try 3 8:12, done:12, jump 5:12, load 8:16, throw:15"},
	{"skip try { try { out 1 } catch v0 { out 2 } } catch v4 { try { } catch v0 { } } out 3", "try 10 8:13, try 6 0:15, push 1:18, out:17, done:15, jump 8:15, push 2:21, out:20, done:13, jump 13:13, try 13 0:23, done:23, jump 13:23, push 3:27, out:26"},
	// All of them in each other.
	{"try { while v1 { if v1 { try { } catch v0 { } } else { while v1 { } } } } catch v4 { if v1 { while v1 { } } else { } }",
		"try 15 8:12, load 1:15, false 13:14, load 1:18, false 9:17, try 8 0:20, done:20, jump 8:20, jump 12:17, load 1:25, false 12:24, jump 9:24, jump 1:14, done:12, jump 21:12, load 1:29, false 21:28, load 1:32, false 20:31, jump 17:31, jump 21:28"},
}

// P9.2: the rows of the table.
func TestFunRows(t *testing.T) {
	for _, x := range rowCases {
		expectScene(t, x.statements, x.want)
	}
	for op, sign := range []string{"+", "-", "*", "/", "%", "&", "|", "^", "<<", ">>", "<", "=="} {
		set := "out "
		end := ", out:12"
		if op >= api.Less {
			set, end = "v1 = ", ", store 1:12"
		}
		expectScene(t, set+"(v0 "+sign+" v4)", "load 0:14, load 8:15, op "+strconv.Itoa(op)+":13"+end)
	}
	expectScene(t, "v1 = (v1 && v3.2)", "load 1:14, load 7:15, op 12:13, store 1:12")
	expectScene(t, "v1 = (v3.2 || v1)", "load 7:14, load 1:15, op 13:13, store 1:12")
	for n := -8; n <= 7; n++ {
		expectScene(t, "out "+strconv.Itoa(n), "push "+strconv.Itoa(n)+":13, out:12")
	}
}

// expectScene expects instructions for statements in scene.
func expectScene(t *testing.T, statements, want string) {
	t.Helper()
	p := scene(t, statements)
	if want != "" {
		want += ", "
	}
	want += "push 0:1, return:1"
	f, e := compile.Fun(p, 0)
	if got := show(f); e != api.OK || f.Params != 2 || f.Words != 11 || got != want {
		t.Errorf("P9.2: %s\n%s\nand not\n%s\n%v", statements, got, want, e)
	}
	expectCode(t, p)
}

// P9.2: what is folded, and where the rest comes from.
func TestFunFolded(t *testing.T) {
	for _, x := range []struct{ statements, want string }{
		// Constants in the place of nodes.
		{"out (1 + 2)", "push 3:13, out:12"},
		{"out (v0 + (1 + 2))", "load 0:14, push 3:15, op 0:13, out:12"},
		{"out ((1 + 2) + v0)", "push 3:14, load 0:17, op 0:13, out:12"},
		{"out ((1 + v0) + 2)", "push 1:15, load 0:16, op 0:14, push 2:17, op 0:13, out:12"},
		{"out (7 + (7 + (7 + 7)))", "push -4:13, out:12"},
		{"v1 = !(1 < 2)", "push 0:13, store 1:12"},
		{"v1 = !!true", "push 1:13, store 1:12"},
		{"v1 = !!v1", "load 1:15, not:14, not:13, store 1:12"},
		{"v1 = (v1 || !false)", "load 1:14, push 1:15, op 13:13, store 1:12"},
		{"out f2((1 == 1), (2 * 3), !true)", "push 1:14, push 6:17, push 0:20, call 2 3:13, out:12"},
		{"spawn f0((2 * 3), (false || true))", "push 6:13, push 1:16, spawn 0 2:12"},
		{"v2[(3 - 2)] = (3 / 2)", "push 1:13, push 1:16, put 2 3:12"},
		{"out v5[(3 - 2)]", "push 1:14, elem 9 2:13, out:12"},
		{"v3.1 = (-8 - 1) send c2 (2 << 1)", "push 7:13, store 6:12, push 4:17, send 2:16"},
		{"return (5 & 4)", "push 4:13, return:12"},
		{"throw (5 | 2)", "push 7:13, throw:12"},
		// What throws is not folded, and what stands above neither.
		{"out (4 / 0)", "push 4:14, push 0:15, op 3:13, out:12"},
		{"out (4 % (2 - 2))", "push 4:14, push 0:15, op 4:13, out:12"},
		{"out (1 + (4 / 0))", "push 1:14, push 4:16, push 0:17, op 3:15, op 0:13, out:12"},
		// KIf.
		{"if true { out 1 } else { out 2 }", "push 1:16, out:15"},
		{"if false { out 1 } else { out 2 }", "push 2:19, out:18"},
		{"if (1 < 0) { out 1 } else { } out 2", "push 2:21, out:20"},
		{"if !!true { if (false || false) { } else { out (v0 + (1 + 1)) } } else { } skip out 2", "load 0:25, push 2:26, op 0:24, out:23, push 2:32, out:31"},
		{"if (v1 && false) { out 1 } else { }", "load 1:14, push 0:15, op 12:13, false 7:12, push 1:18, out:17, jump 7:12"},
		// KWhile.
		{"while false { out 1 } out 2", "push 2:18, out:17"},
		{"out 1 while (2 < 1) { out 1 while true { } } out 2", "push 1:13, out:12, push 2:25, out:24"},
		{"while !true { }", ""},
		{"while !false { while false { } out (1 + 1) }", "push 1:13, false 5:12, push 2:20, out:19, jump 0:12"},
		{"if v1 { while false { out 1 } } else { while false { } skip }", "load 1:13, false 3:12, jump 3:12"},
		{"while v1 { while false { out 1 } }", "load 1:13, false 3:12, jump 0:12"},
		{"try { while false { out 1 } } catch v0 { while false { } out 2 }", "try 3 0:12, done:12, jump 5:12, push 2:24, out:23"},
		// What stands behind an end.
		{"return 1 out 2", "push 1:13, return:12"},
		{"throw 1 return 2 throw 3", "push 1:13, throw:12"},
		{"{ throw 1 out 2 } out 3", "push 1:14, throw:13"},
		{"{ out 1 { return 2 } out 3 } out 4", "push 1:14, out:13, push 2:17, return:16"},
		{"if (1 == 1) { return 1 } else { } out 2", "push 1:18, return:17"},
		{"if v1 { return 1 out 2 } else { throw 2 out 3 } out 4", "load 1:13, false 5:12, push 1:16, return:15, jump 7:12, push 2:21, throw:20, push 4:25, out:24"},
		{"while v1 { return 1 out 2 } out 3", "load 1:13, false 5:12, push 1:16, return:15, jump 0:12, push 3:20, out:19"},
		{"try { return 1 skip } catch v0 { { throw 2 } out 3 } out 4", "try 5 0:12, push 1:15, return:14, done:12, jump 7:12, push 2:20, throw:19, push 4:24, out:23"},
		{"while false { return 1 } return 2 while false { } out 3", "push 2:18, return:17"},
		// Blocks in blocks, with what stands behind them.
		{"{ { } { out 1 { skip } } } out 2", "push 1:16, out:15, push 2:20, out:19"},
	} {
		expectScene(t, x.statements, x.want)
	}
}

// P9.2, P9.3: the example at the end of the chapter, and the first one of DOC.md.
func TestExamples(t *testing.T) {
	for _, x := range []struct{ block, want string }{
		{"v0 = (v0 + (1 + 2)) return v0", "load 0:6, push 3:7, op 0:5, store 0:4, load 0:11, return:10, push 0:1, return:1"},
		{"v0 = (v0 + (4 / 0)) return v0", "load 0:6, push 4:8, push 0:9, op 3:7, op 0:5, store 0:4, load 0:11, return:10, push 0:1, return:1"},
		{"return (v0 + 1)", "load 0:6, push 1:7, op 0:5, return:4, push 0:1, return:1"},
	} {
		p := parse(t, "program 0 fun 1 (int) { "+x.block+" }")
		f, e := compile.Fun(p, 0)
		c, wrong := compile.Prog(p)
		if show(f) != x.want || f.Params != 1 || f.Words != 1 || e != api.OK {
			t.Errorf("P9.2: %s\n%s\nand not\n%s\n%v", x.block, show(f), x.want, e)
		}
		if wrong != api.OK || c.Chans != 0 || len(c.Funs) != 1 || !sameFun(c.Funs[0], f) {
			t.Errorf("P9.3: %v %d", c, wrong)
		}
	}
}

// P9.2, P9.3: three functions, with frames and numbers of their own.
func TestFunctions(t *testing.T) {
	p := parse(t, `program 2
fun 0 (arr 4, int) { v1 = v0[3] while (1 == 2) { out 7 } send c1 (1 + 1) }
fun 3 (int, bool, int, rec (int), arr 1) { if v1 { v3.0 = (v2 - (2 + 2)) } else { { return v4[0] } out 3 } }
fun 1 (bool) { skip spawn f1(f0(), !v0, (2 * 2)) }`)
	// The functions have the numbers 1, 19 and 43.
	want := []struct {
		params, words int
		show          string
	}{
		{0, 5, "push 3:7, elem 0 4:6, store 4:5, push 2:16, send 1:15, push 0:1, return:1"},
		{3, 5, "load 1:28, false 7:27, load 2:32, push 4:33, op 1:31, store 3:30, jump 10:27, push 0:40, elem 4 1:39, return:38, push 0:19, return:19"},
		{1, 1, "call 0 0:48, load 0:50, not:49, push 4:51, spawn 1 3:47, push 0:43, return:43"},
	}
	c, e := compile.Prog(p)
	if e != api.OK || c.Chans != 2 || len(c.Funs) != 3 {
		t.Fatalf("P9.3: %v %d", c, e)
	}
	for i, w := range want {
		f, e := compile.Fun(p, i)
		if e != api.OK || f.Params != w.params || f.Words != w.words || show(f) != w.show {
			t.Errorf("P9.2: the function %d is %d %d %s", i, f.Params, f.Words, show(f))
		}
		if !sameFun(f, c.Funs[i]) {
			t.Errorf("P9.3: the function %d is %v", i, c.Funs[i])
		}
	}
	expectCode(t, p)
}

// uses has statements that use a variable of a type: all that can name it.
func uses(n int, t api.Node) []api.Node {
	switch t.Kind {
	case api.KArr:
		return []api.Node{node(api.KPut, n, num(0), node(api.KElem, n, num(1)))}
	case api.KRec:
		var l []api.Node
		for i := range t.Kids {
			l = append(l, field(api.KFill, n, i, field(api.KField, n, i)))
		}
		return l
	case api.KBool:
		return []api.Node{node(api.KSet, n, not(v(n)))}
	}
	return []api.Node{node(api.KSet, n, v(n)), node(api.KTry, n, block(), block())}
}

// P9.2: arrays, records and single words at all offsets that some variables ahead of them lead to.
func TestFrames(t *testing.T) {
	integer, boolean := node(api.KInt, 0), node(api.KBool, 0)
	kinds := []api.Node{integer, boolean, node(api.KArr, 1), node(api.KArr, 3), node(api.KArr, 4), node(api.KRec, 0, boolean), node(api.KRec, 0, boolean, integer), node(api.KRec, 0, integer, boolean, boolean)}
	lists := [][]api.Node{nil}
	for i := 0; i < len(lists); i++ {
		vars := lists[i]
		for _, x := range kinds {
			if len(vars) < 4 {
				lists = append(lists, slices.Concat(vars, []api.Node{x}))
			}
		}
		b := block()
		for n, x := range vars {
			b.Kids = append(b.Kids, uses(n, x)...)
		}
		b.Kids = b.Kids[max(0, len(b.Kids)-8):]
		params := 0
		for params < min(3, len(vars)) && vars[params].Kind <= api.KBool {
			params++
		}
		p := node(api.KProg, 0, node(api.KFun, params, append(slices.Clone(vars), b)...))
		expectCode(t, p)
	}
	// The largest frame, and the smallest one.
	f, e := compile.Fun(parse(t, "program 0 fun 0 (arr 4, arr 4, arr 4, arr 4, arr 4, arr 4) { v5[0] = 1 out v0[0] }"), 0)
	if e != api.OK || f.Words != 24 || show(f) != "push 0:10, push 1:11, put 20 4:9, push 0:14, elem 0 4:13, out:12, push 0:1, return:1" {
		t.Errorf("P9.2: %d words, %s", f.Words, show(f))
	}
	f, e = compile.Fun(parse(t, "program 0 fun 0 () { }"), 0)
	if e != api.OK || f.Params != 0 || f.Words != 0 || show(f) != "push 0:1, return:1" {
		t.Errorf("P9.2: %d words, %s", f.Words, show(f))
	}
	for params := range 4 {
		types := slices.Repeat([]api.Node{integer, boolean}, 3)
		p := node(api.KProg, 0, node(api.KFun, params, append(types, block(node(api.KSet, 5, v(3))))...))
		f, e = compile.Fun(p, 0)
		if e != api.OK || f.Params != params || f.Words != 6 || show(f) != "load 3:10, store 5:9, push 0:1, return:1" {
			t.Errorf("P9.2: %d parameters of %d: %s", f.Params, params, show(f))
		}
	}
}

// P9.2: functions that do not exist.
func TestFunNone(t *testing.T) {
	one := parse(t, "program 0 fun 0 () { }")
	six := node(api.KProg, 3, slices.Repeat(one.Kids, 6)...)
	for _, f := range []int{math.MinInt, -1 << 32, -6, -2, -1, 0, 1, 2, 5, 6, 7, 1 << 8, 1 << 32, 1<<32 + 1, math.MaxInt} {
		for _, p := range []api.Node{one, six, scene(t, "out v0")} {
			got, e := compile.Fun(p, f)
			if f >= 0 && f < len(p.Kids) {
				if e != api.OK || isZero(got) {
					t.Errorf("P9.2: %v %d for the function %d of %d", got, e, f, len(p.Kids))
				}
			} else if e != api.ErrNone || !isZero(got) {
				t.Errorf("P9.2: %v %d for the function %d of %d", got, e, f, len(p.Kids))
			}
		}
	}
}

// wrongOnes are statements whose types are wrong in scene.
var wrongOnes = []string{
	"out true", "out v1", "v0 = !v0", "out v0[1]", "out v3.0", "out v2", "out f0(1)", "spawn f1(1)", "if 1 { } else { }", "while v0 { }", "try { } catch v1 { }", "return v1", "throw false", "send c0 true", "v1 = (1 && 1)", "v2[true] = 1", "v3.0 = 1", "v2 = v2",
	// Also where they would be left out.
	"if false { out true } else { }", "while false { v0 = true }", "return 1 out v1", "if true { } else { v5 = 1 }",
}

// missingOnes are statements with something that does not exist beside one channel, one variable in their function, and two functions.
var missingOnes = []string{
	"out v1", "v3 = 1", "out v2[0]", "out v1.0", "v1[0] = 1", "v5.0 = 1", "out f2()", "spawn f5(1)", "out recv c1", "send c2 1", "try { } catch v1 { }", "while false { out v1 }", "throw 1 out f2()",
}

// P9.2, P9.3: each error of types.Check, which comes before ErrNone.
func TestErrors(t *testing.T) {
	expect := func(p api.Node, want api.Errno) {
		t.Helper()
		if _, e := types.Check(p); e != want {
			t.Fatalf("the error is %d and not %d: %v", e, want, p)
		}
		for f := -2; f < 8; f++ {
			if got, e := compile.Fun(p, f); e != want || !isZero(got) {
				t.Errorf("P9.2: %v %d for the function %d of %v", got, e, f, p)
			}
		}
		if got, e := compile.Prog(p); e != want || got.Chans != 0 || len(got.Funs) > 0 {
			t.Errorf("P9.3: %v %d for %v", got, e, p)
		}
	}
	for _, s := range wrongOnes {
		expect(scene(t, s), api.ErrType)
		expect(scene(t, "out 1 { "+s+" } out f1()"), api.ErrType)
	}
	for _, s := range missingOnes {
		expect(parse(t, "program 1 fun 1 (int) { "+s+" } fun 0 () { }"), api.ErrRange)
		expect(parse(t, "program 1 fun 1 (int) { } fun 1 (int) { "+s+" }"), api.ErrRange)
	}
	// The first wrong node counts, in whatever function.
	expect(parse(t, "program 0 fun 0 () { out v0 } fun 0 () { out true }"), api.ErrRange)
	expect(parse(t, "program 0 fun 0 () { out true } fun 0 () { out v0 }"), api.ErrType)
	// Trees that are no programs.
	one := parse(t, "program 0 fun 0 () { }")
	fun := one.Kids[0]
	for _, p := range []api.Node{
		{}, num(1), fun, block(), node(api.KProg, 0), node(api.KProg, 4, fun), node(api.KProg, -1, fun), field(api.KProg, 0, 1, fun), node(api.KProg, 0, slices.Repeat(one.Kids, 7)...), node(api.KProg, 0, block()), node(api.KProg, 0, node(api.KFun, 1, block())), node(api.KProg, 0, node(api.KFun, 0)),
		node(api.KProg, 0, node(api.KFun, 0, block(num(1)))), node(api.KProg, 0, node(api.KFun, 0, block(node(api.KOut, 0, num(8))))), node(api.KProg, 0, node(api.KFun, 0, block(cond(truth(1), skip(), skip())))), node(api.KProg, 0, node(api.KFun, 0, block(node(api.KOut, 0, v(7)), node(api.KOut, 0, truth(1))))),
		node(api.KProg, 0, node(api.KFun, 0, block(slices.Repeat([]api.Node{skip()}, 9)...))), node(api.KProg, 0, node(api.KFun, 0, chain(15, block(), func(n api.Node) api.Node { return block(n) }))),
	} {
		expect(p, api.ErrForm)
	}
}

// someStatements are statements of the function 0 of scene.
var someStatements = []string{
	"skip", "out 1", "out (1 + v0)", "out (2 + 3)", "return 4", "throw (v0 - 1)", "while false { out 1 }", "while v1 { skip }", "if true { out 2 } else { }", "if v1 { return 1 } else { while false { } }", "if false { } else { throw 2 out 3 }", "{ }", "{ out 1 { return 2 } }", "try { out 3 } catch v4 { }", "v2[1] = v5[0]", "while !false { if v3.2 { } else { skip } }",
}

// P9.2: all lists of up to three of some statements, also in other statements.
func TestStatements(t *testing.T) {
	lists := []string{""}
	for range 2 {
		for _, l := range lists {
			for _, s := range someStatements {
				lists = append(lists, l+s+" ")
			}
		}
	}
	for i, l := range lists {
		for j, s := range someStatements {
			if i < 20 || (i+j)%3 == 0 {
				expectCode(t, scene(t, l+s))
			}
		}
		if i < 300 {
			for _, around := range []string{"if v1 { A } else { B }", "if true { A } else { B } C", "if false { A } else { B } C", "while v1 { A } B", "while true { A }", "while false { A } B", "try { A } catch v0 { B }", "{ A } B", "{ { A B } C }"} {
				expectCode(t, scene(t, replaced(around, l, someStatements[i%len(someStatements)], someStatements[i/7%len(someStatements)])))
			}
		}
	}
}

// replaced is a text with others in the place of A, B and C.
func replaced(s string, l ...string) string {
	var out []byte
	for _, c := range []byte(s) {
		if c >= 'A' && c <= 'C' {
			out = append(out, l[c-'A']...)
		} else {
			out = append(out, c)
		}
	}
	return string(out)
}

// P9.2, P9.3: random programs, right and wrong.
func TestAnyProgram(t *testing.T) {
	r := rand.New(rand.NewSource(92))
	results, made := map[api.Errno]int{}, map[int]int{}
	for i := range 4000 {
		p := anyProgram(r, i%3 == 0)
		expectCode(t, p)
		c, e := compile.Prog(p)
		results[e]++
		for _, f := range c.Funs {
			for _, x := range f.Body {
				made[x.Op]++
			}
		}
	}
	for _, e := range []api.Errno{api.OK, api.ErrRange, api.ErrType} {
		if results[e] < 300 {
			t.Errorf("P9.2: only %d of the programs have the error %d", results[e], e)
		}
	}
	for op := range api.IDrop {
		if made[op] < 300 {
			t.Errorf("P9.2: only %d of the instructions have the Op %d", made[op], op)
		}
	}
	if made[api.IDrop] > 0 {
		t.Errorf("P9.2: there is an IDrop")
	}
}

// P9.2, P9.3: programs as deep and as large as they can be.
func TestLimits(t *testing.T) {
	expect := func(p api.Node) {
		t.Helper()
		if !tree.Valid(p) {
			t.Fatalf("not valid: %s", text.Print(p))
		}
		expectCode(t, p)
		expectSound(t, p)
	}
	program := func(b api.Node) api.Node {
		return node(api.KProg, 1, node(api.KFun, 1, node(api.KInt, 0), b), node(api.KFun, 3, node(api.KInt, 0), node(api.KInt, 0), node(api.KInt, 0), block()))
	}
	statement := func(e api.Node) api.Node { return program(block(node(api.KOut, 0, e))) }
	// The deepest expressions, with as many words on the stack as there can be.
	for depth := 1; depth <= 12; depth++ {
		expect(statement(chain(depth, v(0), func(n api.Node) api.Node { return bin(api.Add, n, v(0)) })))
		expect(statement(chain(depth, v(0), func(n api.Node) api.Node { return bin(api.Sub, v(0), n) })))
		expect(statement(chain(depth, v(0), func(n api.Node) api.Node { return node(api.KCall, 1, v(0), v(0), n) })))
		expect(statement(chain(depth, num(1), func(n api.Node) api.Node { return bin(api.Add, num(1), n) })))
	}
	// The deepest blocks.
	for _, around := range []func(n api.Node) api.Node{
		func(n api.Node) api.Node { return block(cond(bin(api.Same, v(0), num(1)), n, block())) },
		func(n api.Node) api.Node { return block(cond(truth(0), block(), n), out(1)) },
		func(n api.Node) api.Node { return block(skip(), while(bin(api.Same, v(0), num(1)), n), out(2)) },
		func(n api.Node) api.Node { return block(while(truth(0), n), out(2)) },
		func(n api.Node) api.Node { return block(node(api.KTry, 0, n, block(out(3))), out(2)) },
		func(n api.Node) api.Node { return block(node(api.KTry, 0, block(throw(3)), n)) },
		func(n api.Node) api.Node { return block(out(1), block(n), out(2)) },
	} {
		for levels := 1; levels <= 6; levels++ {
			expect(program(chain(levels, block(), around)))
			expect(program(chain(levels, block(ret(1), out(1)), around)))
		}
	}
	// Many instructions: a KTry has three, as many as nodes. What is left of the block has 64 statements.
	tries := block(slices.Repeat([]api.Node{node(api.KTry, 0, block(), block())}, 8)...)
	p := program(block(slices.Repeat([]api.Node{tries}, 8)...))
	expect(p)
	if f, _ := compile.Fun(p, 0); len(f.Body) != 194 {
		t.Errorf("P9.2: %d instructions", len(f.Body))
	}
}
