package ops_test

import (
	"slices"
	"strconv"
	"strings"
	"testing"

	"scoria/api"
	"scoria/ops"
)

// chapter is the table of the chapter.
const chapter = `
| 0 | plus | Add(?0, ?1) | Sub(?0, ?1) | 1 |
| 1 | minus | Sub(?0, ?1) | Add(?0, ?1) | 0 |
| 2 | less | Less(?0, ?1) | Same(?0, ?1) | 3 |
| 3 | same | Same(?0, ?1) | Less(?0, ?1) | 2 |
| 4 | both | Both(?0, ?1) | Some(?0, ?1) | 5 |
| 5 | some | Some(?0, ?1) | Both(?0, ?1) | 4 |
| 6 | negate | KIf(?0, ?1, ?2) | KIf(KNot(?0), ?1, ?2) | 7 |
| 7 | affirm | KIf(KNot(?0), ?1, ?2) | KIf(?0, ?1, ?2) | 6 |
| 8 | swap | KIf(?0, ?1, ?2) | KIf(?0, ?2, ?1) | 8 |
| 9 | turn | Sub(?0, ?1) | Sub(?1, ?0) | 9 |
| 10 | rise | KTruth | KTruth[1] | 11 |
| 11 | fall | KTruth[1] | KTruth | 10 |
| 12 | one | KNum | KNum[1] | 13 |
| 13 | zero | KNum[1] | KNum | 12 |
| 14 | times | Mul(?0, ?1) | Div(?0, ?1) | 15 |
| 15 | divide | Div(?0, ?1) | Mul(?0, ?1) | 14 |
| 16 | and | And(?0, ?1) | Or(?0, ?1) | 17 |
| 17 | or | Or(?0, ?1) | And(?0, ?1) | 16 |
| 18 | left | Shl(?0, ?1) | Shr(?0, ?1) | 19 |
| 19 | right | Shr(?0, ?1) | Shl(?0, ?1) | 18 |
| 20 | hush | KOut(?0) | KSkip | -1 |
| 21 | once | KWhile(?0, ?1) | KIf(?0, ?1, KBlock) | -1 |
| 22 | next | KElem[AnyN](?0) | KElem[AnyN](Add(?0, KNum[1])) | 23 |
| 23 | back | KElem[AnyN](Add(?0, KNum[1])) | KElem[AnyN](?0) | 22 |`

// named are the nodes without kids that the names of the table stand for.
var named = map[string]api.Node{
	"?0": hole(0), "?1": hole(1), "?2": hole(2),
	"Add": node(api.KBin, 0), "Sub": node(api.KBin, 1), "Mul": node(api.KBin, 2), "Div": node(api.KBin, 3), "And": node(api.KBin, 5), "Or": node(api.KBin, 6), "Shl": node(api.KBin, 8), "Shr": node(api.KBin, 9),
	"Less": node(api.KBin, 10), "Same": node(api.KBin, 11), "Both": node(api.KBin, 12), "Some": node(api.KBin, 13),
	"KIf": node(api.KIf, 0), "KNot": node(api.KNot, 0), "KTruth": node(api.KTruth, 0), "KNum": node(api.KNum, 0), "KOut": node(api.KOut, 0), "KSkip": node(api.KSkip, 0), "KWhile": node(api.KWhile, 0), "KBlock": node(api.KBlock, 0), "KElem": node(api.KElem, 0),
}

// readPattern reads a pattern of the table, and returns what stands behind it.
func readPattern(t *testing.T, s string) (api.Node, string) {
	t.Helper()
	end := strings.IndexAny(s+")", "[(), ")
	n, ok := named[s[:end]]
	if !ok {
		t.Fatalf("there is no node %q", s)
	}
	s = s[end:]
	if strings.HasPrefix(s, "[") {
		number, rest, _ := strings.Cut(s[1:], "]")
		n.N, s = api.AnyN, rest
		if number != "AnyN" {
			n.N, _ = strconv.Atoi(number)
		}
	}
	if strings.HasPrefix(s, "(") {
		for len(s) > 0 && s[0] != ')' {
			kid, rest := readPattern(t, strings.TrimPrefix(s[1:], " "))
			n.Kids, s = append(n.Kids, kid), rest
		}
		s = s[1:]
	}
	return n, s
}

// table has the operators of the table.
func table(t *testing.T) []api.Op {
	t.Helper()
	var l []api.Op
	for i, line := range strings.Split(strings.TrimSpace(chapter), "\n") {
		cells := strings.Split(strings.Trim(line, "| "), " | ")
		if len(cells) != 5 || cells[0] != strconv.Itoa(i) {
			t.Fatalf("the row %d is %q", i, line)
		}
		find, rest := readPattern(t, cells[2])
		put, more := readPattern(t, cells[3])
		back, e := strconv.Atoi(cells[4])
		if rest+more != "" || e != nil {
			t.Fatalf("the row %d is %q", i, line)
		}
		l = append(l, api.Op{Name: cells[1], Find: find, Put: put, Back: back})
	}
	return l
}

// P14.6: the rows of the table.
func TestStandardTable(t *testing.T) {
	want, got := table(t), ops.Standard()
	if len(want) != 24 || len(got) != len(want) {
		t.Fatalf("P14.6: %d operators instead of %d", len(got), len(want))
	}
	names := map[string]bool{}
	for i, o := range got {
		if !sameOp(o, want[i]) {
			t.Errorf("P14.6: the operator %d is %v instead of %v", i, o, want[i])
		}
		expectValid(t, o, true, "a standard operator")
		names[o.Name] = true
		if o.Back >= 0 && got[o.Back].Back != i {
			t.Errorf("P14.6: Back of the operator %d leads elsewhere", i)
		}
	}
	if len(names) != 24 {
		t.Errorf("P14.6: there are %d names", len(names))
	}
	if again := ops.Standard(); !slices.EqualFunc(got, again, sameOp) {
		t.Errorf("Rules: another call returns %v", again)
	}
}

// P14.3, P14.6: each operator at a node that it changes, and at some that it leaves as they are.
func TestStandardApplied(t *testing.T) {
	l := ops.Standard()
	when := func(c, x, y api.Node) api.Node { return node(api.KIf, 0, c, x, y) }
	loop := func(c, x api.Node) api.Node { return node(api.KWhile, 0, c, x) }
	out := func(x api.Node) api.Node { return node(api.KOut, 0, x) }
	truth := func(n int) api.Node { return node(api.KTruth, n) }
	inc := func(x api.Node) api.Node { return bin(api.Add, x, num(1)) }
	x, y, c := block(node(api.KSkip, 0)), block(), bin(api.Less, v(0), v(1))
	for i, row := range []struct {
		n, want api.Node
		stay    []api.Node
	}{
		{bin(0, v(0), num(3)), bin(1, v(0), num(3)), []api.Node{bin(1, v(0), num(3)), bin(2, v(0), v(0)), node(api.KBin, 0, v(0)), withM(api.KBin, 0, 1, v(0), v(1)), node(api.KCall, 0, v(0), v(1))}},
		{bin(1, v(0), num(3)), bin(0, v(0), num(3)), []api.Node{bin(0, v(0), num(3)), node(api.KBin, 1), node(api.KBin, 1, v(0), v(0), v(0))}},
		{bin(10, v(0), num(3)), bin(11, v(0), num(3)), []api.Node{bin(11, v(0), num(3)), bin(12, c, c)}},
		{bin(11, v(0), num(3)), bin(10, v(0), num(3)), []api.Node{bin(10, v(0), num(3)), bin(1, v(0), v(1))}},
		{bin(12, c, truth(0)), bin(13, c, truth(0)), []api.Node{bin(13, c, c), bin(11, v(0), v(1))}},
		{bin(13, c, truth(0)), bin(12, c, truth(0)), []api.Node{bin(12, c, c), bin(14, c, c)}},
		{when(c, x, y), when(not(c), x, y), []api.Node{loop(c, x), node(api.KIf, 1, c, x, y), node(api.KIf, 0, c, x), block(when(c, x, y))}},
		{when(not(c), x, y), when(c, x, y), []api.Node{when(c, x, y), when(truth(0), x, y), when(node(api.KNot, 1, c), x, y), when(node(api.KNot, 0), x, y), loop(not(c), x)}},
		{when(c, x, y), when(c, y, x), []api.Node{when(c, x, x), when(c, y, y), when(c, x, copyOf(x)), loop(c, x)}},
		{bin(1, v(0), num(3)), bin(1, num(3), v(0)), []api.Node{bin(1, v(0), v(0)), bin(1, inc(v(1)), inc(v(1))), bin(0, v(0), v(1)), bin(3, v(0), v(1))}},
		{truth(0), truth(1), []api.Node{truth(1), truth(2), num(0), node(api.KTruth, 0, c), withM(api.KTruth, 0, 1)}},
		{truth(1), truth(0), []api.Node{truth(0), truth(-1), num(1)}},
		{num(0), num(1), []api.Node{num(1), num(-1), num(2), truth(0), v(0), withM(api.KNum, 0, 1), node(api.KNum, 0, c)}},
		{num(1), num(0), []api.Node{num(0), num(-1), num(2), truth(1), v(1)}},
		{bin(2, v(0), num(3)), bin(3, v(0), num(3)), []api.Node{bin(3, v(0), num(3)), bin(4, v(0), num(3)), bin(1, v(0), v(1))}},
		{bin(3, v(0), num(3)), bin(2, v(0), num(3)), []api.Node{bin(2, v(0), num(3)), bin(4, v(0), num(3))}},
		{bin(5, v(0), num(3)), bin(6, v(0), num(3)), []api.Node{bin(6, v(0), num(3)), bin(7, v(0), num(3)), bin(4, v(0), v(1))}},
		{bin(6, v(0), num(3)), bin(5, v(0), num(3)), []api.Node{bin(5, v(0), num(3)), bin(7, v(0), num(3))}},
		{bin(8, v(0), num(3)), bin(9, v(0), num(3)), []api.Node{bin(9, v(0), num(3)), bin(7, v(0), num(3))}},
		{bin(9, v(0), num(3)), bin(8, v(0), num(3)), []api.Node{bin(8, v(0), num(3)), bin(10, v(0), num(3))}},
		{out(v(1)), node(api.KSkip, 0), []api.Node{node(api.KSkip, 0), node(api.KThrow, 0, v(1)), node(api.KReturn, 0, v(1)), node(api.KOut, 0), node(api.KOut, 1, v(1))}},
		{loop(c, x), when(c, x, y), []api.Node{when(c, x, y), node(api.KWhile, 0, c), node(api.KWhile, 0, c, x, y), node(api.KWhile, 2, c, x)}},
		{element(3, v(1)), element(3, inc(v(1))), []api.Node{node(api.KElem, 3), withM(api.KElem, 3, 1, v(1)), node(api.KField, 3), v(3), node(api.KPut, 3, v(1), v(2)), node(api.KSet, 3, v(1))}},
		{element(4, inc(v(1))), element(4, v(1)), []api.Node{element(4, v(1)), element(4, bin(0, v(1), num(2))), element(4, bin(0, num(1), v(1))), element(4, bin(1, v(1), num(1))), node(api.KSet, 4, inc(v(1))), withM(api.KElem, 4, 1, inc(v(1)))}},
	} {
		expectApply(t, l[i], row.n, row.want, true, l[i].Name)
		expectSites(t, row.n, l[i:i+1], plainSites(row.n, l[i:i+1]), l[i].Name)
		for _, n := range row.stay {
			expectApply(t, l[i], n, zero, false, l[i].Name)
		}
	}
	// An index that is v0 + 1 is increased as well, and the numbers of variables are not looked at.
	for n := range 6 {
		expectApply(t, l[22], element(n, inc(v(1))), element(n, inc(inc(v(1)))), true, "next")
		expectApply(t, l[23], element(n, inc(inc(v(1)))), element(n, inc(v(1))), true, "back")
	}
	expectApply(t, l[6], when(not(c), x, x), when(not(not(c)), x, x), true, "negate")
	expectApply(t, l[7], when(not(not(c)), x, x), when(not(c), x, x), true, "affirm")
}

// The examples at the end of the chapter.
func TestExamples(t *testing.T) {
	l := ops.Standard()
	plus, minus := bin(api.Add, v(0), num(1)), bin(api.Sub, v(0), num(1))
	expectApply(t, l[0], plus, minus, true, "example")
	expectApply(t, l[0], minus, zero, false, "example")
	pattern := bin(api.Sub, hole(0), hole(0))
	expectMatch(t, pattern, bin(api.Sub, v(0), v(0)), []api.Node{v(0)}, true, "example")
	expectMatch(t, pattern, bin(api.Sub, v(0), v(1)), nil, false, "example")
	when := func(l ...api.Node) api.Node {
		return node(api.KIf, 0, append([]api.Node{bin(api.Less, plus, num(2))}, l...)...)
	}
	expectSites(t, when(block(node(api.KSkip, 0)), block()), l, []api.Site{site(6), site(8), site(2, 0), site(0, 0, 0), site(13, 0, 0, 1)}, "example")
	expectSites(t, when(block(), block()), l, []api.Site{site(6), site(2, 0), site(0, 0, 0), site(13, 0, 0, 1)}, "example")
}
