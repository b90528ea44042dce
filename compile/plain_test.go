package compile_test

import (
	"math/rand"
	"slices"
	"strconv"
	"strings"
	"testing"

	"scoria/api"
	"scoria/compile"
	"scoria/text"
	"scoria/tree"
	"scoria/types"
	"scoria/word"
)

func node(kind, n int, kids ...api.Node) api.Node {
	return api.Node{Kind: kind, N: n, Kids: kids}
}

func field(kind, n, m int, kids ...api.Node) api.Node {
	return api.Node{Kind: kind, N: n, M: m, Kids: kids}
}

func num(n int) api.Node { return node(api.KNum, n) }

func truth(n int) api.Node { return node(api.KTruth, n) }

func v(n int) api.Node { return node(api.KVar, n) }

func not(e api.Node) api.Node { return node(api.KNot, 0, e) }

func bin(op int, a, b api.Node) api.Node { return node(api.KBin, op, a, b) }

func block(l ...api.Node) api.Node { return node(api.KBlock, 0, l...) }

func out(n int) api.Node { return node(api.KOut, 0, num(n)) }

func ret(n int) api.Node { return node(api.KReturn, 0, num(n)) }

func throw(n int) api.Node { return node(api.KThrow, 0, num(n)) }

func cond(l ...api.Node) api.Node { return node(api.KIf, 0, l...) }

func while(l ...api.Node) api.Node { return node(api.KWhile, 0, l...) }

func skip() api.Node { return node(api.KSkip, 0) }

// never is a loop that is not executed.
func never() api.Node { return while(truth(0), block(out(1))) }

// copyOf is n without any of its memory.
func copyOf(n api.Node) api.Node {
	c := api.Node{Kind: n.Kind, N: n.N, M: n.M}
	for _, kid := range n.Kids {
		c.Kids = append(c.Kids, copyOf(kid))
	}
	return c
}

// at is the node at a place, which exists.
func at(t *testing.T, n api.Node, path []int) api.Node {
	t.Helper()
	x, ok := tree.At(n, path)
	if !ok {
		t.Fatalf("there is no node at %v", path)
	}
	return x
}

// parse is the program of a text.
func parse(t *testing.T, s string) api.Node {
	t.Helper()
	p, wrong := text.Parse(s)
	if wrong != -1 {
		t.Fatalf("%q is not read: %d", s, wrong)
	}
	return p
}

// same reports whether two trees are equal.
func same(a, b api.Node) bool { return tree.Compare(a, b) == 0 }

// plain is a tree with the numbers of its nodes, which is folded by the words of the chapter.
type plain struct {
	kind, n, m int
	number     int
	was        int // the kind of the node that stood there before
	kids       []plain
}

// numbered is a tree whose first node has a number, and the number after that of its last node.
func numbered(e api.Node, number int) (plain, int) {
	p := plain{kind: e.Kind, n: e.N, m: e.M, number: number, was: e.Kind}
	number++
	for _, kid := range e.Kids {
		var q plain
		q, number = numbered(kid, number)
		p.kids = append(p.kids, q)
	}
	return p, number
}

// constants are all constants.
var constants = allConstants()

func allConstants() []api.Node {
	l := []api.Node{truth(0), truth(1)}
	for n := -8; n <= 7; n++ {
		l = append(l, num(n))
	}
	return l
}

// is reports whether p is one of the constants, of a kind.
func (p plain) is(kind int) bool {
	return p.kind == kind && slices.ContainsFunc(constants, func(c api.Node) bool { return same(c, p.tree()) })
}

// tree is p without numbers.
func (p plain) tree() api.Node {
	x := field(p.kind, p.n, p.m)
	for _, kid := range p.kids {
		x.Kids = append(x.Kids, kid.tree())
	}
	return x
}

// become is another node in the place of p.
func (p plain) become(kind, n int) plain {
	return plain{kind: kind, n: n, number: p.number, was: p.was}
}

// folded is p after folding. Its kids are folded first.
func (p plain) folded() plain {
	var kids []plain
	for _, kid := range p.kids {
		kids = append(kids, kid.folded())
	}
	p.kids = kids
	switch p.kind {
	case api.KWhile:
		if len(kids) == 2 && kids[0].is(api.KTruth) && kids[0].n == 0 {
			return p.become(api.KSkip, 0)
		}
	case api.KBin:
		if p.m == 0 && len(kids) == 2 {
			return p.foldedBin()
		}
	case api.KNot:
		if p.n == 0 && p.m == 0 && len(kids) == 1 && kids[0].is(api.KTruth) {
			return p.become(api.KTruth, []int{1, 0}[kids[0].n])
		}
	case api.KIf:
		if len(kids) == 3 && kids[0].is(api.KTruth) {
			if kids[0].n == 1 {
				return kids[1]
			}
			return kids[2]
		}
	case api.KBlock:
		return p.foldedBlock()
	}
	return p
}

// foldedBin is a KBin with two kids, which are folded.
func (p plain) foldedBin() plain {
	kind := map[bool]int{true: api.KTruth, false: api.KNum}
	logic := p.n == 12 || p.n == 13
	if p.n < 0 || p.n > 13 || !p.kids[0].is(kind[logic]) || !p.kids[1].is(kind[logic]) {
		return p
	}
	n, code := word.Op(p.n, p.kids[0].n, p.kids[1].n)
	if code != 0 {
		return p
	}
	return p.become(kind[p.n >= 10], n)
}

// foldedBlock is a KBlock whose kids are folded.
func (p plain) foldedBlock() plain {
	var opened []plain
	for _, kid := range p.kids {
		if kid.kind == api.KBlock {
			opened = append(opened, kid.kids...)
		} else {
			opened = append(opened, kid)
		}
	}
	opened = slices.DeleteFunc(opened, func(kid plain) bool { return kid.kind == api.KSkip && kid.was == api.KWhile })
	end := slices.IndexFunc(opened, func(kid plain) bool { return kid.kind == api.KReturn || kid.kind == api.KThrow })
	if end >= 0 {
		opened = opened[:end+1]
	}
	p.kids = opened
	return p
}

// plainFold is what Fold has to return.
func plainFold(e api.Node) api.Node {
	p, _ := numbered(e, 0)
	return p.folded().tree()
}

// line is an instruction; or a label, if its Op is -1. If to is not empty, its A is the number of the instruction after this label.
type line struct {
	x    api.Instr
	from int
	to   string
}

// label is the label with a name.
func label(name string) line { return line{x: api.Instr{Op: -1}, to: name} }

// coder makes lines for a function with variables of some types.
type coder struct{ vars []api.Node }

// size is the number of words of a variable of a type.
func size(t api.Node) int {
	if t.Kind == api.KRec {
		return len(t.Kids)
	}
	return max(1, t.N)
}

// at is the offset of a variable.
func (c coder) at(n int) int {
	sum := 0
	for _, t := range c.vars[:n] {
		sum += size(t)
	}
	return sum
}

// lines are the lines of a folded node, by the chapter's table.
func (c coder) lines(p plain) []line {
	var before []line
	for _, kid := range p.kids {
		before = append(before, c.lines(kid)...)
	}
	own := func(op int, operands ...int) []line {
		operands = append(operands, 0, 0)
		return append(before, line{x: api.Instr{Op: op, A: operands[0], B: operands[1]}, from: p.number})
	}
	switch p.kind {
	case api.KNum, api.KTruth:
		return own(api.IPush, p.n)
	case api.KVar:
		return own(api.ILoad, c.at(p.n))
	case api.KElem:
		return own(api.IElem, c.at(p.n), size(c.vars[p.n]))
	case api.KField:
		return own(api.ILoad, c.at(p.n)+p.m)
	case api.KBin:
		return own(api.IOp, p.n)
	case api.KNot:
		return own(api.INot)
	case api.KCall:
		return own(api.ICall, p.n, len(p.kids))
	case api.KRecv:
		return own(api.IRecv, p.n)
	case api.KSet:
		return own(api.IStore, c.at(p.n))
	case api.KPut:
		return own(api.IPut, c.at(p.n), size(c.vars[p.n]))
	case api.KFill:
		return own(api.IStore, c.at(p.n)+p.m)
	case api.KReturn:
		return own(api.IReturn)
	case api.KThrow:
		return own(api.IThrow)
	case api.KOut:
		return own(api.IOut)
	case api.KSend:
		return own(api.ISend, p.n)
	case api.KSpawn:
		return own(api.ISpawn, p.n, len(p.kids))
	case api.KIf, api.KWhile, api.KTry:
		return c.jumps(p)
	}
	return before // KBlock, KSkip
}

// jumps are the lines of a KIf, a KWhile or a KTry.
func (c coder) jumps(p plain) []line {
	name := strconv.Itoa(p.number)
	first, second, after := "first of "+name, "second of "+name, "after "+name
	to := func(op int, where string, b int) line {
		return line{x: api.Instr{Op: op, B: b}, from: p.number, to: where}
	}
	var parts [][]line
	for _, kid := range p.kids {
		parts = append(parts, c.lines(kid))
	}
	switch p.kind {
	case api.KIf:
		return slices.Concat(parts[0], []line{to(api.IFalse, second, 0)}, parts[1], []line{to(api.IJump, after, 0), label(second)}, parts[2], []line{label(after)})
	case api.KWhile:
		return slices.Concat([]line{label(first)}, parts[0], []line{to(api.IFalse, after, 0)}, parts[1], []line{to(api.IJump, first, 0), label(after)})
	}
	return slices.Concat([]line{to(api.ITry, second, c.at(p.n))}, parts[0], []line{to(api.IDone, "", 0), to(api.IJump, after, 0), label(second)}, parts[1], []line{label(after)})
}

// plainFun is what Fun has to return for a function of a program in which nothing is wrong.
func plainFun(p api.Node, f int) api.FunCode {
	whole, _ := numbered(p, 0)
	fun := whole.kids[f]
	last := len(fun.kids) - 1
	c := coder{p.Kids[f].Kids[:last]}
	lines := append(c.lines(fun.kids[last].folded()), line{x: api.Instr{Op: api.IPush}, from: fun.number}, line{x: api.Instr{Op: api.IReturn}, from: fun.number})
	// A label has the number of the next line that is none.
	labels, count := map[string]int{}, 0
	for _, l := range lines {
		if l.x.Op == -1 {
			labels[l.to] = count
		} else {
			count++
		}
	}
	code := api.FunCode{Params: p.Kids[f].N, Words: c.at(last)}
	for _, l := range lines {
		if l.x.Op == -1 {
			continue
		}
		if l.to != "" {
			l.x.A = labels[l.to]
		}
		code.Body, code.From = append(code.Body, l.x), append(code.From, l.from)
	}
	return code
}

// sameFun reports whether two codes of functions are equal in all fields.
func sameFun(f, g api.FunCode) bool {
	return f.Params == g.Params && f.Words == g.Words && slices.Equal(f.Body, g.Body) && slices.Equal(f.From, g.From)
}

// isZero reports whether there is no code.
func isZero(f api.FunCode) bool { return sameFun(f, api.FunCode{}) }

// expectFold compares Fold with what it has to return.
func expectFold(t *testing.T, e api.Node) api.Node {
	t.Helper()
	got, want := compile.Fold(e), plainFold(e)
	if !same(got, want) {
		t.Fatalf("P9.1: %v and not %v for %v", got, want, e)
	}
	return got
}

// expectCode compares Fun, for all functions and some that do not exist, and Prog with what they have to return.
func expectCode(t *testing.T, p api.Node) {
	t.Helper()
	_, wrong := types.Check(p)
	var want []api.FunCode
	if wrong == api.OK {
		for f := range p.Kids {
			want = append(want, plainFun(p, f))
		}
	}
	for f := -1; f <= len(p.Kids); f++ {
		got, e := compile.Fun(p, f)
		switch {
		case wrong != api.OK:
			if e != wrong || !isZero(got) {
				t.Fatalf("P9.2: %v %d and not the error %d for %v", got, e, wrong, p)
			}
		case f < 0 || f >= len(p.Kids):
			if e != api.ErrNone || !isZero(got) {
				t.Fatalf("P9.2: %v %d for the function %d of %v", got, e, f, p)
			}
		case e != api.OK || !sameFun(got, want[f]):
			t.Fatalf("P9.2: %v %d and not %v for the function %d of %s", got, e, want[f], f, text.Print(p))
		}
	}
	c, e := compile.Prog(p)
	chans := 0
	if wrong == api.OK {
		chans = p.N
	}
	if e != wrong || c.Chans != chans || !slices.EqualFunc(c.Funs, want, sameFun) {
		t.Fatalf("P9.3: %v %d and not %v %d for %v", c, e, want, wrong, p)
	}
}

// names has the name of each instruction, and the number of its operands.
var names = []struct {
	name     string
	operands int
}{
	{"push", 1}, {"load", 1}, {"store", 1}, {"elem", 2}, {"put", 2}, {"op", 1}, {"not", 0}, {"jump", 1}, {"false", 1}, {"call", 2}, {"return", 0}, {"throw", 0}, {"try", 2}, {"done", 0}, {"send", 1}, {"recv", 1}, {"spawn", 2}, {"out", 0}, {"drop", 0},
}

// show has the instructions of a function in words: their names, operands, and after : what they come from. Operands that have to be 0 are shown only if they are not.
func show(f api.FunCode) string {
	if len(f.Body) != len(f.From) {
		return "other lengths"
	}
	var l []string
	for i, x := range f.Body {
		s := names[x.Op].name
		operands := []int{x.A, x.B}
		for j, n := range operands {
			if j < names[x.Op].operands || n != 0 {
				s += " " + strconv.Itoa(n)
			}
		}
		l = append(l, s+":"+strconv.Itoa(f.From[i]))
	}
	return strings.Join(l, ", ")
}

// anyProgram is a valid program in which nothing is wrong; or, if it is wild, most. Much of it can be folded.
func anyProgram(r *rand.Rand, wild bool) api.Node {
	for {
		p := signatures(r)
		m := &maker{r: r, p: copyOf(p), wild: wild}
		for f, fun := range p.Kids {
			m.f = f
			fun.Kids[len(fun.Kids)-1] = m.block(1 + r.Intn(3))
		}
		if tree.Valid(p) {
			return p
		}
	}
}

// signatures is a program whose functions have variables, and empty blocks.
func signatures(r *rand.Rand) api.Node {
	p := node(api.KProg, r.Intn(4))
	for range 1 + r.Intn(4) + r.Intn(3) {
		fun := node(api.KFun, r.Intn(4))
		for len(fun.Kids) < fun.N {
			fun.Kids = append(fun.Kids, node(r.Intn(2), 0))
		}
		for range r.Intn(7 - fun.N) {
			fun.Kids = append(fun.Kids, anyType(r))
		}
		fun.Kids = append(fun.Kids, block())
		p.Kids = append(p.Kids, fun)
	}
	return p
}

// anyType is the type of a variable that is no parameter.
func anyType(r *rand.Rand) api.Node {
	switch r.Intn(3) {
	case 0:
		return node(api.KArr, 1+r.Intn(4))
	case 1:
		rec := node(api.KRec, 0)
		for range 1 + r.Intn(3) {
			rec.Kids = append(rec.Kids, node(r.Intn(2), 0))
		}
		return rec
	}
	return node(r.Intn(2), 0)
}

// maker makes statements and expressions of the function f of a program. Nothing is wrong in them, unless it is wild.
type maker struct {
	r    *rand.Rand
	p    api.Node
	f    int
	wild bool
}

// pick is one of some nodes.
func (m *maker) pick(l ...api.Node) api.Node { return l[m.r.Intn(len(l))] }

// number is one of count numbers; if there is none, or sometimes if the maker is wild, one of most.
func (m *maker) number(count, most int) int {
	if count == 0 || m.wild && m.r.Intn(9) == 0 {
		return m.r.Intn(most)
	}
	return m.r.Intn(count)
}

// named has a node of a kind, without kids, for each variable of a type; for KField and KFill, for each field of it.
func (m *maker) named(kind, want int) []api.Node {
	var l []api.Node
	vars := m.p.Kids[m.f].Kids
	for n, t := range vars[:len(vars)-1] {
		if kind != api.KField && kind != api.KFill {
			t = node(api.KRec, 0, t)
		}
		for i, part := range t.Kids {
			if part.Kind == want {
				l = append(l, field(kind, n, i))
			}
		}
	}
	return l
}

// args has arguments for a function.
func (m *maker) args(f, depth int) []api.Node {
	var l []api.Node
	if f >= len(m.p.Kids) {
		return l
	}
	for _, t := range m.p.Kids[f].Kids[:m.p.Kids[f].N] {
		l = append(l, m.expression(t.Kind, depth))
	}
	return l
}

// constant is a constant of a type.
func (m *maker) constant(want int) api.Node {
	if want == api.KBool {
		return truth(m.r.Intn(2))
	}
	return num(m.r.Intn(16) - 8)
}

// leaf is an expression of a type, which is short.
func (m *maker) leaf(want int) api.Node {
	l := slices.Concat(m.named(api.KVar, want), m.named(api.KField, want))
	if want == api.KInt && m.p.N > 0 {
		l = append(l, node(api.KRecv, m.number(m.p.N, 3)))
	}
	if len(l) == 0 || m.r.Intn(2) == 0 {
		return m.constant(want)
	}
	return m.pick(l...)
}

// expression is an expression of a type; if the maker is wild, sometimes of the other one, or with a number that does not exist.
func (m *maker) expression(want, depth int) api.Node {
	if m.wild && m.r.Intn(20) == 0 {
		want = 1 - want
	}
	if m.wild && m.r.Intn(20) == 0 {
		return m.pick(v(m.r.Intn(6)), field(api.KField, m.r.Intn(6), m.r.Intn(3)), node(api.KRecv, m.r.Intn(3)), node(api.KElem, m.r.Intn(6), num(1)))
	}
	if depth <= 0 || m.r.Intn(4) == 0 {
		return m.leaf(want)
	}
	if want == api.KBool {
		switch m.r.Intn(3) {
		case 0:
			return not(m.expression(api.KBool, depth-1))
		case 1:
			return bin(api.Both+m.r.Intn(2), m.expression(api.KBool, depth-1), m.expression(api.KBool, depth-1))
		}
		return bin(api.Less+m.r.Intn(2), m.expression(api.KInt, depth-1), m.expression(api.KInt, depth-1))
	}
	switch m.r.Intn(6) {
	case 0:
		f := m.number(len(m.p.Kids), 6)
		return node(api.KCall, f, m.args(f, depth-1)...)
	case 1:
		if l := m.named(api.KElem, api.KArr); len(l) > 0 {
			return node(api.KElem, m.pick(l...).N, m.expression(api.KInt, depth-1))
		}
	}
	return bin(m.r.Intn(api.Less), m.expression(api.KInt, depth-1), m.expression(api.KInt, depth-1))
}

// block is a block of some statements.
func (m *maker) block(depth int) api.Node {
	b := block()
	for range m.r.Intn(4) {
		b.Kids = append(b.Kids, m.statement(depth))
	}
	return b
}

// statement is a statement; blocks in it are the less deep the less depth there is.
func (m *maker) statement(depth int) api.Node {
	kinds := []int{api.KSet, api.KPut, api.KFill, api.KSend, api.KSpawn, api.KOut, api.KSkip, api.KReturn, api.KThrow}
	if depth > 0 {
		kinds = append(kinds, api.KBlock, api.KBlock, api.KIf, api.KIf, api.KIf, api.KWhile, api.KWhile, api.KTry, api.KTry)
	}
	kind := kinds[m.r.Intn(len(kinds))]
	depth--
	switch kind {
	case api.KBlock:
		return m.block(depth)
	case api.KIf:
		return cond(m.expression(api.KBool, 2), m.block(depth), m.block(depth))
	case api.KWhile:
		return while(m.expression(api.KBool, 2), m.block(depth))
	case api.KReturn, api.KThrow, api.KOut:
		return node(kind, 0, m.expression(api.KInt, 3))
	case api.KSpawn:
		f := m.number(len(m.p.Kids), 6)
		return node(kind, f, m.args(f, 2)...)
	case api.KSend:
		if m.p.N > 0 || m.wild {
			return node(kind, m.number(m.p.N, 3), m.expression(api.KInt, 2))
		}
	case api.KSet, api.KPut, api.KFill, api.KTry:
		return m.change(kind, depth)
	}
	return skip()
}

// change is a statement that changes a variable; KSkip, if there is none that it can change.
func (m *maker) change(kind, depth int) api.Node {
	want := m.r.Intn(2)
	if kind == api.KPut {
		want = api.KArr
	} else if kind == api.KTry {
		want = api.KInt
	}
	l := m.named(kind, want)
	if m.wild && m.r.Intn(9) == 0 {
		l = []api.Node{node(kind, m.r.Intn(6))}
	}
	if len(l) == 0 {
		return skip()
	}
	n := m.pick(l...)
	switch kind {
	case api.KPut:
		n.Kids = []api.Node{m.expression(api.KInt, 2), m.expression(api.KInt, 2)}
	case api.KTry:
		n.Kids = []api.Node{m.block(depth), m.block(depth)}
	default:
		n.Kids = []api.Node{m.expression(want, 3)}
	}
	return n
}
