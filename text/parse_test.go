package text_test

import (
	"strconv"
	"strings"
	"testing"

	"scoria/api"
	"scoria/text"
	"scoria/tree"
)

// head and tail stand around statements of a program that is well formed if they are.
const (
	head = "program 3 fun 0 () { "
	tail = "}"
)

// plainWhole is all of the promise of Parse.
func plainWhole(s string) (api.Node, int) {
	if len(s) > 8192 {
		return api.Node{}, 8192
	}
	n, at := plainParse(s)
	if at == -1 && !tree.Valid(n) {
		return api.Node{}, 0
	}
	return n, at
}

// expectRead expects what the plain version reads, and returns where the error is.
func expectRead(t *testing.T, s string) int {
	t.Helper()
	want, at := plainWhole(s)
	if got, gotAt := text.Parse(s); gotAt != at || !same(got, want) {
		t.Fatalf("P6.2: %q is read as %v, %d, not as %v, %d", s, got, gotAt, want, at)
	}
	return at
}

// expectParse expects a tree and an offset, from the program and from the plain version.
func expectParse(t *testing.T, s string, want api.Node, at int) {
	t.Helper()
	if got, gotAt := text.Parse(s); gotAt != at || !same(got, want) {
		t.Errorf("P6.2: %q is read as %v, %d, not as %v, %d", s, got, gotAt, want, at)
	}
	if got, gotAt := plainWhole(s); gotAt != at || !same(got, want) {
		t.Errorf("P6.2: %q is read as %v, %d by the plain version", s, got, gotAt)
	}
}

// expectInvalid expects that a text is that of a program that is not valid.
func expectInvalid(t *testing.T, s string) {
	t.Helper()
	expectParse(t, s, api.Node{}, 0)
	if _, at := plainParse(s); at != -1 {
		t.Errorf("P6.2: %q is no program", s)
	}
}

// expectError expects an error where an @ stands in the text, which is not read.
func expectError(t *testing.T, marked string) {
	t.Helper()
	before, after, found := strings.Cut(marked, "@")
	if !found {
		t.Fatalf("%q has no mark", marked)
	}
	expectParse(t, before+after, api.Node{}, len(before))
}

// expectStatement expects a well formed program with one statement.
func expectStatement(t *testing.T, s string, want api.Node) {
	t.Helper()
	n := body(want)
	n.N = 3
	expectParse(t, head+s+tail, n, -1)
}

// P6.2: each statement of the grammar, with the fields that it sets.
func TestParseStatements(t *testing.T) {
	sum := bin(api.Add, v0, one)
	for _, c := range []struct {
		s    string
		want api.Node
	}{
		{"{}", empty},
		{"{ skip {} skip }", block(skip, empty, skip)},
		{"{{{skip}}{}}", block(block(block(skip)), empty)},
		{"v4 = (v0 + 1)", node(api.KSet, 4, sum)},
		{"v5[v0] = 1", node(api.KPut, 5, v0, one)},
		{"v5.2 = 1", field(api.KFill, 5, 2, one)},
		{"if true { skip } else { }", node(api.KIf, 0, yes, block(skip), empty)},
		{"if true {} else { if 1 {} else {} }", node(api.KIf, 0, yes, empty, block(node(api.KIf, 0, one, empty, empty)))},
		{"while v0 { while true {} skip }", node(api.KWhile, 0, v0, block(node(api.KWhile, 0, yes, empty), skip))},
		{"return 1", node(api.KReturn, 0, one)},
		{"throw (v0+1)", node(api.KThrow, 0, sum)},
		{"try { skip } catch v3 { }", node(api.KTry, 3, block(skip), empty)},
		{"try {try{}catch v1{skip}} catch v0 {while 1 {if 0 {} else {}}}", node(api.KTry, 0, block(node(api.KTry, 1, empty, block(skip))), block(node(api.KWhile, 0, one, block(node(api.KIf, 0, zero, empty, empty)))))},
		{"send c2 1", node(api.KSend, 2, one)},
		{"send c0 recv c1", node(api.KSend, 0, node(api.KRecv, 1))},
		{"spawn f5()", node(api.KSpawn, 5)},
		{"spawn f0 ( 1 , v0,0 )", node(api.KSpawn, 0, one, v0, zero)},
		{"out 1", node(api.KOut, 0, one)},
		{"skip", skip},
	} {
		expectStatement(t, c.s, c.want)
	}
}

// P6.2: each expression of the grammar, with the fields that it sets.
func TestParseExpressions(t *testing.T) {
	minus := node(api.KNum, -1)
	for _, c := range []struct {
		s    string
		want api.Node
	}{
		{"0", zero},
		{"7", node(api.KNum, 7)},
		{"-1", minus},
		{"- 8", node(api.KNum, -8)},
		{"true", yes},
		{"false", node(api.KTruth, 0)},
		{"v5", node(api.KVar, 5)},
		{"v1[0]", node(api.KElem, 1, zero)},
		{"v1 [ v2 [v0] ]", node(api.KElem, 1, node(api.KElem, 2, v0))},
		{"v3.2", field(api.KField, 3, 2)},
		{"v3 . 0", field(api.KField, 3, 0)},
		{"(1-1)", bin(api.Sub, one, one)},
		{"(1--1)", bin(api.Sub, one, minus)},
		{"(-1 - - 1)", bin(api.Sub, minus, minus)},
		{"((v0<1)||!true)", bin(api.Some, bin(api.Less, v0, one), node(api.KNot, 0, yes))},
		{"!!true", node(api.KNot, 0, node(api.KNot, 0, yes))},
		{"!-1", node(api.KNot, 0, minus)},
		{"f5()", node(api.KCall, 5)},
		{"f0(f1(),(1+1),v0)", node(api.KCall, 0, node(api.KCall, 1), bin(api.Add, one, one), v0)},
		{"recv c2", node(api.KRecv, 2)},
	} {
		expectStatement(t, "return "+c.s, node(api.KReturn, 0, c.want))
	}
	for op, sign := range strings.Fields("+ - * / % & | ^ << >> < == && ||") {
		expectStatement(t, "out (v0 "+sign+" 1)", node(api.KOut, 0, bin(op, v0, one)))
		expectStatement(t, "out (v0"+sign+"-1)", node(api.KOut, 0, bin(op, v0, minus)))
	}
}

// P6.2: types, functions and programs.
func TestParseFunctions(t *testing.T) {
	i, b := node(api.KInt, 0), node(api.KBool, 0)
	record := node(api.KRec, 0, b, i, i)
	expectParse(t, "program 0 fun 0 () {}", body(), -1)
	expectParse(t, "program 3 fun 0 () {} fun 2 (int, bool, arr 4) {skip} fun 0 (rec(bool,int,int)) {}",
		node(api.KProg, 3, node(api.KFun, 0, empty), node(api.KFun, 2, i, b, node(api.KArr, 4), block(skip)), node(api.KFun, 0, record, empty)), -1)
	expectParse(t, "\n \nprogram\n3\nfun\n3(int,int,int,int,int,int){}\n\n ",
		node(api.KProg, 3, node(api.KFun, 3, i, i, i, i, i, i, empty)), -1)
}

// P6.2: texts of programs that are not valid.
func TestParseInvalid(t *testing.T) {
	for _, s := range []string{
		"program 0", "  program 0", "program 0\n", "program 4 fun 0 () {}", "program 999 fun 0 () {}",
		"program 0 fun 1 () {}", "program 0 fun 1 (arr 1) {}", "program 0 fun 1 (rec (int)) {}", "program 0 fun 4 (int, int, int, int) {}", "program 0 fun 999 (int) {}", "program 0 fun 0 (int, int, int, int, int, int, int) {}",
		"program 0 fun 0 (arr 0) {}", "program 0 fun 0 (arr 5) {}", "program 0 fun 0 (rec (rec (int))) {}", "program 0 fun 0 (rec (int, int, int, int)) {}", "program 0 fun 0 (rec (arr 1)) {}",
		"program 0" + strings.Repeat(" fun 0 () {}", 7),
	} {
		expectInvalid(t, s)
	}
	for _, s := range []string{
		"out 8", "out -9", "out 999", "out -999", "v6 = 1", "v100 = 1", "v999[0] = 1", "v0.3 = 1", "v6.0 = 1", "v6[0] = 1", "out v6", "out v6[1]", "out v0.3", "out v0.999", "out v6.0",
		"out f6()", "out f0(1, 1, 1, 1)", "spawn f6()", "spawn f0(1, 1, 1, 1)", "out recv c3", "send c3 1", "try {} catch v6 {}",
		strings.Repeat("skip ", 9), strings.Repeat("{", 14) + strings.Repeat("}", 14), "out " + strings.Repeat("!", 12) + "1", strings.Repeat("{"+strings.Repeat("v0[0] = (0 + 0) ", 8)+"}", 8),
	} {
		expectInvalid(t, head+s+tail)
	}
	expectStatement(t, strings.Repeat("{", 13)+strings.Repeat("}", 13), nested(12, empty, func(n api.Node) api.Node { return block(n) }))
	expectStatement(t, "out "+strings.Repeat("!", 11)+"1", node(api.KOut, 0, nested(11, one, func(n api.Node) api.Node { return node(api.KNot, 0, n) })))
}

// P6.2: numerals of one to four digits, and with a 0 at their beginning.
func TestParseNumerals(t *testing.T) {
	for _, s := range []string{"0", "1", "7", "8", "9", "10", "11", "99", "100", "101", "999"} {
		n, _ := strconv.Atoi(s)
		if n <= api.MaxWord {
			expectStatement(t, "out "+s, node(api.KOut, 0, node(api.KNum, n)))
			continue
		}
		expectInvalid(t, head+"out "+s+tail)
		expectInvalid(t, "program "+s+" fun 0 () {}")
	}
	for _, s := range []string{"00", "01", "07", "000", "001", "010", "0999", "1000", "1234", "9999", "10000", "0000", "18446744073709551616", "18446744073709551617", "99999999999999999999999"} {
		for _, before := range []string{"", "skip ", "out ", "out -", "out - ", "v0.", "out v0.", "out (1 + ", "out (1 ", "out f0(", "out f0(1, ", "try {} catch "} {
			expectError(t, head+before+"@"+s+tail)
			expectError(t, head+before+"@"+s+"x"+tail)
			expectError(t, head+before+"@"+s+" "+tail)
		}
		for _, before := range []string{"", "program ", "program 0 fun ", "program 0 fun 0 (arr ", "program 0 fun 0 (", "program 0 ", "program 0 fun 0 () {} "} {
			expectError(t, before+"@"+s)
			expectError(t, before+"@"+s+") {}")
		}
	}
	for _, s := range []string{
		"out -@0", "out - @0", "out -@-1", "out -@v0", "out -@(1 + 1)", "out (1 - -@0)", "out (1--@0)", "out (-@0 + 1)", "v0.@-1 = 1", "out v0.@-1", "out @+1", "out @.1", "out 1@.1", "out 1@x", "out 0@x1", "out 1v0@", "out 1 @1", "out 0 @0", "out 1@,000",
	} {
		expectError(t, head+s+tail)
	}
	expectParse(t, head+"out 1v0=0skip"+tail, node(api.KProg, 3, node(api.KFun, 0, block(node(api.KOut, 0, one), node(api.KSet, 0, zero), skip))), -1)
	expectParse(t, "program 0fun 0(){}", body(), -1)
}

// P6.2: numbered words, with and without gaps.
func TestParseNumberedWords(t *testing.T) {
	for _, s := range []string{
		"@v = 1", "@v 0 = 1", "@v00 = 1", "@v01 = 1", "@v1000 = 1", "@v0x = 1", "@v0v0 = 1", "@V0 = 1", "@vv0 = 1", "@v-1 = 1", "@c0 = 1", "@f0 = 1", "@f0()", "@w0 = 1",
		"out @v", "out @v 0", "out @v00", "out @v1000", "out @vx", "out @v0v0", "out @v0x", "out @c0", "out @V0", "out @w", "out @f", "out @f 0()", "out @f00()", "out @f0x()", "out f0@", "out f0@[1]", "out f0 @1", "out f0@.1", "out @F0()",
		"out recv @c", "out recv @c 0", "out recv @c00", "out recv @c1000", "out recv @v0", "out recv @0", "out @recvc0", "out recv @C0", "out recv @cc0", "out recv@",
		"send @c 0 1", "send @c00 1", "send @0 1", "send @v0 1", "@sendc0 1", "send @f0 1", "send @(1 + 1)", "send@",
		"spawn @f 0()", "spawn @f00()", "spawn @0()", "spawn @v0()", "@spawnf0()", "spawn f0 @skip", "spawn @()", "spawn@",
		"try {} catch @v {}", "try {} catch @v 0 {}", "try {} catch @v00 {}", "try {} catch @0 {}", "try {} @catchv0 {}", "try {} catch @c0 {}", "try {} catch @{}",
	} {
		expectError(t, head+s+tail)
	}
	for _, s := range []string{"v999 = 1", "out v10", "out f999()", "out recv c100", "send c10 1", "spawn f10()", "try {} catch v999 {}"} {
		expectInvalid(t, head+s+tail)
	}
}

// P6.2: tokens that cannot stand in statements.
func TestParseTokensInStatements(t *testing.T) {
	for _, s := range []string{
		"}@", "skip } @skip", "@; skip", "@Skip", "@skips", "@skip2", "@1", "@true", "@(1 + 1)", "@!true", "@-1", "@else {}", "@catch v0 {}", "@int", "@fun 0 () {}", "@program 0", "@, skip", "skip @, skip", "@[", "@=", "@recv c0",
		"v0 @", "v0 @1", "v0 @== 1", "v0 = @= 1", "v0 = @", "v0 = @skip", "v0[@] = 1", "v0[1 @= 1", "v0[1] @1", "v0[1] @== 1", "v0[1]@", "v0[1] = @", "v0. @= 1", "v0.@v0 = 1", "v0.1@", "v0.1@.1 = 1", "v0.1@[1] = 1", "v0[1]@[1] = 1", "v0[1]@.1 = 1", "v0@(1) = 1", "v0.1 @== 1", "v0.1 @1", "v0.1 = @", "v0@, v1 = 1", "v0 = 1@, 1", "v0 @+ = 1",
		"if @{} else {}", "if true @skip else {}", "if true {}@", "if true {} else @skip", "if true {} @{}", "if true {} else@", "if true {} else @if true {} else {}", "if true @else {}", "if (1 @{} else {}", "if true {} @skip else {}", "if true { @else {}", "if true {} @Else {}",
		"while @{}", "while true@", "while true @skip", "@whiletrue {}", "while true @; {}", "return @", "return @{}", "return @return 1", "throw @", "throw @throw 1", "out @", "out @out 1", "out 1 @2", "out 1@, 2", "return 1@, 2", "skip @1", "skip @(1)", "skip @v0x",
		"try @skip catch v0 {}", "try {} @v0 {}", "try {} catch v0 @skip", "try {}@", "try {} @{}", "try {} catch v0@", "try {} @else v0 {}", "send c0@", "send c0@, 1", "send c0 @= 1", "spawn f0(@", "spawn f0(@,)", "spawn f0(1,@)", "spawn f0(1 @1)", "spawn f0((1@)", "spawn f0(1@", "spawn f0@[1]", "spawn f0() @()", "spawn @f0x()", "spawn f0(1@]",
	} {
		expectError(t, head+s+tail)
	}
}

// P6.2: tokens that cannot stand in expressions.
func TestParseTokensInExpressions(t *testing.T) {
	for _, s := range []string{
		"(1@)", "(1 + 1@", "(1 + @)", "(@+ 1)", "(@)", "(1 + 1 @+ 1)", "(1 @1)", "(1 @, 1)", "(1 + 1@, 1)", "(1 + 1@]", "1 @+ 1", "(1 + 1) @+ 1", "((1 + 1)@)", "(1 @v0)", "(@* 1)", "(1 + @* 1)", "@[1]", "@{}", "@== 1", "@&1",
		"(1 @= 1)", "(1 @! 1)", "(1 @!== 1)", "(1 == @== 1)", "(1 == @= 1)", "(1 == @=1)", "(1 & @& 1)", "(1 && @& 1)", "(1 && @&& 1)", "(1 | @| 1)", "(1 || @| 1)", "(1 < @< 1)", "(1 << @< 1)", "(1 << @<< 1)", "(1 << @= 1)", "(1 < @= 1)", "(1 @> 1)", "(1 >> @> 1)", "(1 >> @>> 1)", "(1 @>= 1)", "(1 < @> 1)", "(1 <@)", "(1 @. 1)", "(1 + @+ 1)", "(1 * @* 1)", "(1 / @/ 1)", "(1 ^ @^ 1)", "(1 % @% 1)", "(1 - - @- 1)", "(1 @=! 1)", "(1 @and 1)",
		"!@", "! @", "!@skip", "!@= 1", "v0[@", "v0[@]", "v0[1@", "v0[1@)", "v0[1@, 1]", "v0[1 @1]", "v0.@", "v0.@v1", "v0.1@.1", "v0[1]@.1", "v0 [1]@[1]", "v0.1@[1]", "v0@(1)", "v0 v0@", "v0 @1",
		"f0(@", "f0(@,)", "f0(1,@)", "f0(1,@,1)", "f0(1 @1)", "f0(1@", "f0(1@]", "f0()@()", "f0()@[1]", "f0(@{})", "f0(@skip)", "f0(1@; 1)", "f0(@int)", "@True", "@truee", "@true1", "@int", "@skip", "@recv0", "@out 1", "true @false", "-@true", "-@f0()", "recv c0@()", "recv @recv c0", "recv c0 @1",
	} {
		expectError(t, head+"out "+s+tail)
	}
}

// P6.2: tokens that cannot stand outside of blocks.
func TestParseTokensInPrograms(t *testing.T) {
	for _, s := range []string{
		"@", " @", "\n\n@", "program@", "program @", "program\n@", "program @fun", "program @-1", "program @v0", "@Program 0", "@PROGRAM 0", "@programs 0", "@program0", "@program0 fun 0 () {}", "@progra", "@0", "@fun", "@fun 0 () {}", "@{}", "@skip", "@1", "@+",
		"program 0 @0", "program 0 @1 fun", "program 0 @Fun", "program 0 @program 0", "program 0 @{}", "program 0 @skip", "program 0 @fun0 () {}", "program 0@, 1", "program 0 fun@", "program 0 fun @() {}", "program 0 fun 0@", "program 0 fun 0 @{}", "program 0 fun @-1 () {}", "program 0 fun @f0 () {}", "program 0 fun @v0", "program 0 fun 0 @0 () {}", "program 0 fun 0 @int {}",
		"program 0 fun 0 (@", "program 0 fun 0 (@,) {}", "program 0 fun 0 (int,@) {}", "program 0 fun 0 (int @int) {}", "program 0 fun 0 (int@", "program 0 fun 0 (int@] {}", "program 0 fun 0 (@v0) {}", "program 0 fun 0 (@Int) {}", "program 0 fun 0 (@ints) {}", "program 0 fun 0 (int,@,int) {}", "program 0 fun 0 (@1) {}", "program 0 fun 0 (@(int)) {}",
		"program 0 fun 0 (arr@) {}", "program 0 fun 0 (arr @-1) {}", "program 0 fun 0 (arr @int) {}", "program 0 fun 0 (arr@[4]) {}", "program 0 fun 0 (@arr4) {}", "program 0 fun 0 (arr 4 @4) {}", "program 0 fun 0 (rec@) {}", "program 0 fun 0 (rec (@)) {}", "program 0 fun 0 (rec (@,)) {}", "program 0 fun 0 (rec (int,@)) {}", "program 0 fun 0 (rec (int) @{}", "program 0 fun 0 (rec @int) {}", "program 0 fun 0 (rec @{", "program 0 fun 0 (rec (int @bool)) {}", "program 0 fun 0 (rec (int)@(int)) {}", "program 0 fun 0 (@record (int)) {}",
		"program 0 fun 0 ()@", "program 0 fun 0 () @skip", "program 0 fun 0 () {@", "program 0 fun 0 () { skip@", "program 0 fun 0 ()@; {}", "program 0 fun 0 () @() {}", "program 0 fun 0 () {} @{}", "program 0 fun 0 () {} @skip", "program 0 fun 0 () {}@}", "program 0 fun 0 () {} @fun0", "program 0 fun 0 () {} fun@", "program 0 fun 0 () {} @0", "program 0 fun 0 () {}@.", "program 0 fun 0 () {}@, fun 0 () {}", "program 0 fun 0 () {} @program 0 fun 0 () {}", "program 0 fun 0 () {} fun 0 () @fun 0 () {}",
	} {
		expectError(t, s)
	}
}
