package types_test

import (
	"math/rand"
	"slices"
	"testing"

	"scoria/api"
	"scoria/text"
	"scoria/tree"
)

func node(kind, n int, kids ...api.Node) api.Node {
	return api.Node{Kind: kind, N: n, Kids: kids}
}

func field(kind, n, m int, kids ...api.Node) api.Node {
	return api.Node{Kind: kind, N: n, M: m, Kids: kids}
}

// Nodes that many tests need.
var (
	word  = node(api.KInt, 0)
	truth = node(api.KBool, 0)
	empty = node(api.KBlock, 0)
	num   = node(api.KNum, 3)
	yes   = node(api.KTruth, 1)
)

// The kinds that the chapter calls expressions, and those that it calls statements.
var (
	expressions = []int{api.KNum, api.KTruth, api.KVar, api.KElem, api.KField, api.KBin, api.KNot, api.KCall, api.KRecv}
	statements  = []int{api.KBlock, api.KSet, api.KPut, api.KFill, api.KIf, api.KWhile, api.KReturn, api.KThrow, api.KTry, api.KSend, api.KSpawn, api.KOut, api.KSkip}
)

// copyOf is n without any of its memory.
func copyOf(n api.Node) api.Node {
	c := api.Node{Kind: n.Kind, N: n.N, M: n.M}
	for _, kid := range n.Kids {
		c.Kids = append(c.Kids, copyOf(kid))
	}
	return c
}

// at is the node at a place, which exists.
func at(t *testing.T, n api.Node, path []int) api.Node {
	t.Helper()
	x, ok := tree.At(n, path)
	if !ok {
		t.Fatalf("there is no node at %v", path)
	}
	return x
}

// with is n with another node at a place, which exists.
func with(t *testing.T, n api.Node, path []int, x api.Node) api.Node {
	t.Helper()
	y, e := tree.Set(n, path, x)
	if e != api.OK {
		t.Fatalf("there is no node at %v", path)
	}
	return y
}

// parse is the program of a text.
func parse(t *testing.T, s string) api.Node {
	t.Helper()
	p, wrong := text.Parse(s)
	if wrong != -1 {
		t.Fatalf("%q is not read: %d", s, wrong)
	}
	return p
}

// What N, or N with M, is the number of, and what kids have to be.
const (
	nothing = iota
	variable
	variableField
	function
	channel
	aWord   // a kid
	aTruth  // a kid
	asNamed // a kid: what the variable, or the field, is
)

// row is a row of the chapter's table. For KBin it is about the operations from first to last.
type row struct {
	kinds       []int
	first, last int
	names       int
	holds       []int
	kids        []int
}

// table is the chapter's table.
var table = rows()

func rows() []row {
	single := []int{api.KInt, api.KBool}
	array, record := []int{api.KArr}, []int{api.KRec}
	return []row{
		{kinds: []int{api.KVar}, names: variable, holds: single},
		{kinds: []int{api.KElem}, names: variable, holds: array, kids: []int{aWord}},
		{kinds: []int{api.KField}, names: variableField, holds: record},
		{kinds: []int{api.KBin}, first: 0, last: 11, kids: []int{aWord, aWord}},
		{kinds: []int{api.KBin}, first: 12, last: 13, kids: []int{aTruth, aTruth}},
		{kinds: []int{api.KNot}, kids: []int{aTruth}},
		{kinds: []int{api.KCall, api.KSpawn}, names: function},
		{kinds: []int{api.KRecv}, names: channel},
		{kinds: []int{api.KSet}, names: variable, holds: single, kids: []int{asNamed}},
		{kinds: []int{api.KPut}, names: variable, holds: array, kids: []int{aWord, aWord}},
		{kinds: []int{api.KFill}, names: variableField, holds: record, kids: []int{asNamed}},
		{kinds: []int{api.KIf, api.KWhile}, kids: []int{aTruth}},
		{kinds: []int{api.KReturn, api.KThrow, api.KOut}, kids: []int{aWord}},
		{kinds: []int{api.KSend}, names: channel, kids: []int{aWord}},
		{kinds: []int{api.KTry}, names: variable, holds: []int{api.KInt}},
	}
}

// variables has the types of the variables of a function.
func variables(p api.Node, f int) []api.Node {
	return slices.DeleteFunc(slices.Clone(p.Kids[f].Kids), func(n api.Node) bool { return n.Kind == api.KBlock })
}

// plainNamed is the type of the variable or of the field that a node names; 0 and false, if there is none.
func plainNamed(p api.Node, f int, x api.Node, names int) (int, bool) {
	l := variables(p, f)
	if x.N >= len(l) {
		return 0, false
	}
	if names == variable {
		return l[x.N].Kind, true
	}
	if l[x.N].Kind != api.KRec || x.M >= len(l[x.N].Kids) {
		return 0, false
	}
	return l[x.N].Kids[x.M].Kind, true
}

// plainType is the type of an expression by the words of the chapter; false, if it has none.
func plainType(p api.Node, f int, x api.Node) (int, bool) {
	words := []int{api.KNum, api.KElem, api.KCall, api.KRecv}
	if slices.Contains(words, x.Kind) || x.Kind == api.KBin && x.N <= 9 {
		return api.KInt, true
	}
	if x.Kind == api.KVar {
		kind, ok := plainNamed(p, f, x, variable)
		ok = ok && (kind == api.KInt || kind == api.KBool)
		return kind, ok
	}
	if x.Kind == api.KField {
		return plainNamed(p, f, x, variableField)
	}
	return api.KBool, true
}

// plainMissing is the first column of a row.
func plainMissing(p api.Node, f int, x api.Node, names int) bool {
	l := variables(p, f)
	switch names {
	case variable:
		return x.N > len(l)-1
	case variableField:
		return x.N > len(l)-1 || l[x.N].Kind == api.KRec && x.M > len(l[x.N].Kids)-1
	case function:
		return x.N > len(p.Kids)-1
	case channel:
		return x.N > p.N-1
	}
	return false
}

// plainFits says whether a kid has a type; also if it has none.
func plainFits(p api.Node, f int, kid api.Node, want int) bool {
	kind, ok := plainType(p, f, kid)
	return !ok || kind == want
}

// plainKids is what the second column says about calls, and the third one.
func plainKids(p api.Node, f int, x api.Node, r row) bool {
	if r.names == function {
		called := p.Kids[x.N]
		ok := len(x.Kids) == called.N
		for i := range min(len(x.Kids), called.N) {
			ok = ok && plainFits(p, f, x.Kids[i], called.Kids[i].Kind)
		}
		return ok
	}
	for i, want := range r.kids {
		kind := map[int]int{aWord: api.KInt, aTruth: api.KBool}[want]
		if want == asNamed {
			kind, _ = plainNamed(p, f, x, r.names)
		}
		if !plainFits(p, f, x.Kids[i], kind) {
			return false
		}
	}
	return true
}

// plainError is the error of a node of the function f of a valid program; that of the nodes below it does not count.
func plainError(p api.Node, f int, x api.Node) api.Errno {
	for _, r := range table {
		if !slices.Contains(r.kinds, x.Kind) || x.Kind == api.KBin && (x.N < r.first || x.N > r.last) {
			continue
		}
		if plainMissing(p, f, x, r.names) {
			return api.ErrRange
		}
		if r.holds != nil && !slices.Contains(r.holds, variables(p, f)[x.N].Kind) || !plainKids(p, f, x, r) {
			return api.ErrType
		}
	}
	return api.OK
}

// plainCheck is what Check has to return.
func plainCheck(p api.Node) ([]int, api.Errno) {
	if !tree.Valid(p) {
		return nil, api.ErrForm
	}
	for _, path := range tree.Paths(p)[1:] {
		x, _ := tree.At(p, path)
		if e := plainError(p, path[0], x); e != api.OK {
			return path, e
		}
	}
	return nil, api.OK
}

// plainOf is what Of has to return for an expression that can stand in a valid program.
func plainOf(p api.Node, f int, x api.Node) (api.Node, api.Errno) {
	if f < 0 || f >= len(p.Kids) {
		return api.Node{}, api.ErrRange
	}
	for _, path := range tree.Paths(x) {
		y, _ := tree.At(x, path)
		if e := plainError(p, f, y); e != api.OK {
			return api.Node{}, e
		}
	}
	kind, _ := plainType(p, f, x)
	return node(kind, 0), api.OK
}

// minimal is a node of a kind, with the fewest kids.
func minimal(kind int) api.Node {
	switch kind {
	case api.KElem, api.KNot, api.KSet, api.KFill, api.KReturn, api.KThrow, api.KSend, api.KOut:
		return node(kind, 0, num)
	case api.KBin, api.KPut:
		return node(kind, 0, num, num)
	case api.KIf:
		return node(kind, 0, num, empty, empty)
	case api.KWhile:
		return node(kind, 0, num, empty)
	case api.KTry:
		return node(kind, 0, empty, empty)
	}
	return node(kind, 0)
}

// anyProgram is a valid program in which nothing is wrong; or, if it is wild, most.
func anyProgram(r *rand.Rand, wild bool) api.Node {
	for {
		p := signatures(r)
		m := maker{r: r, p: copyOf(p), wild: wild}
		for f, fun := range p.Kids {
			m.f = f
			fun.Kids[len(fun.Kids)-1] = m.block(1 + r.Intn(3))
		}
		if tree.Valid(p) {
			return p
		}
	}
}

// signatures is a program whose functions have variables, and empty blocks.
func signatures(r *rand.Rand) api.Node {
	p := node(api.KProg, r.Intn(4))
	for range 1 + r.Intn(4) + r.Intn(3) {
		fun := node(api.KFun, r.Intn(4))
		for len(fun.Kids) < fun.N {
			fun.Kids = append(fun.Kids, node(r.Intn(2), 0))
		}
		for range r.Intn(7 - fun.N) {
			fun.Kids = append(fun.Kids, anyType(r))
		}
		fun.Kids = append(fun.Kids, empty)
		p.Kids = append(p.Kids, fun)
	}
	return p
}

// anyType is the type of a variable that is no parameter.
func anyType(r *rand.Rand) api.Node {
	switch r.Intn(3) {
	case 0:
		return node(api.KArr, 1+r.Intn(4))
	case 1:
		rec := node(api.KRec, 0)
		for range 1 + r.Intn(3) {
			rec.Kids = append(rec.Kids, node(r.Intn(2), 0))
		}
		return rec
	}
	return node(r.Intn(2), 0)
}

// maker makes statements and expressions of the function f of a program. Nothing is wrong in them, unless it is wild.
type maker struct {
	r    *rand.Rand
	p    api.Node
	f    int
	wild bool
}

// number is a number that exists, or, if the maker is wild, often one of those beyond.
func (m maker) number(count, most int) int {
	if count == 0 || m.wild && m.r.Intn(4) == 0 {
		return m.r.Intn(most)
	}
	return m.r.Intn(count)
}

// named has a node of a kind, without kids, for each variable with a type; for KField and KFill, for each field with it.
func (m maker) named(kind, want int) []api.Node {
	var l []api.Node
	for v, t := range variables(m.p, m.f) {
		if kind != api.KField && kind != api.KFill {
			t = node(api.KRec, 0, t)
		}
		for i, part := range t.Kids {
			if part.Kind == want {
				l = append(l, field(kind, v, i))
			}
		}
	}
	return l
}

// args has arguments for a function.
func (m maker) args(f, depth int) []api.Node {
	var l []api.Node
	if m.wild && (f >= len(m.p.Kids) || m.r.Intn(4) == 0) {
		for range m.r.Intn(4) {
			l = append(l, m.expression(m.r.Intn(2), depth))
		}
		return l
	}
	for _, t := range m.p.Kids[f].Kids[:m.p.Kids[f].N] {
		l = append(l, m.expression(t.Kind, depth))
	}
	return l
}

// leaf is an expression of a type, which is short.
func (m maker) leaf(want int) api.Node {
	l := slices.Concat(m.named(api.KVar, want), m.named(api.KField, want))
	if want == api.KInt {
		l = append(l, node(api.KNum, m.r.Intn(16)-8))
		if m.p.N > 0 {
			l = append(l, node(api.KRecv, m.number(m.p.N, 3)))
		}
	} else {
		l = append(l, node(api.KTruth, m.r.Intn(2)))
	}
	return l[m.r.Intn(len(l))]
}

// expression is an expression of a type; if the maker is wild, also of the other one, or with numbers that do not exist.
func (m maker) expression(want, depth int) api.Node {
	if m.wild && m.r.Intn(8) == 0 {
		want = 1 - want
	}
	if m.wild && m.r.Intn(8) == 0 {
		return []api.Node{node(api.KVar, m.r.Intn(6)), field(api.KField, m.r.Intn(6), m.r.Intn(3)), node(api.KRecv, m.r.Intn(3)), node(api.KElem, m.r.Intn(6), num)}[m.r.Intn(4)]
	}
	if depth <= 0 || m.r.Intn(4) == 0 {
		return m.leaf(want)
	}
	if want == api.KBool {
		switch m.r.Intn(3) {
		case 0:
			return node(api.KNot, 0, m.expression(api.KBool, depth-1))
		case 1:
			return node(api.KBin, api.Both+m.r.Intn(2), m.expression(api.KBool, depth-1), m.expression(api.KBool, depth-1))
		}
		return node(api.KBin, api.Less+m.r.Intn(2), m.expression(api.KInt, depth-1), m.expression(api.KInt, depth-1))
	}
	arrays := m.named(api.KElem, api.KArr)
	switch m.r.Intn(3) {
	case 0:
		f := m.number(len(m.p.Kids), 6)
		return node(api.KCall, f, m.args(f, depth-1)...)
	case 1:
		if len(arrays) > 0 {
			return node(api.KElem, arrays[m.r.Intn(len(arrays))].N, m.expression(api.KInt, depth-1))
		}
	}
	return node(api.KBin, m.r.Intn(api.Less), m.expression(api.KInt, depth-1), m.expression(api.KInt, depth-1))
}

// block is a block of some statements.
func (m maker) block(depth int) api.Node {
	b := node(api.KBlock, 0)
	for range m.r.Intn(4) {
		b.Kids = append(b.Kids, m.statement(depth))
	}
	return b
}

// statement is a statement; blocks in it are the less deep the less depth there is.
func (m maker) statement(depth int) api.Node {
	kind := statements[m.r.Intn(len(statements))]
	if depth <= 0 && slices.Contains([]int{api.KBlock, api.KIf, api.KWhile, api.KTry}, kind) {
		kind = api.KSkip
	}
	depth--
	switch kind {
	case api.KBlock:
		return m.block(depth)
	case api.KIf:
		return node(kind, 0, m.expression(api.KBool, 2), m.block(depth), m.block(depth))
	case api.KWhile:
		return node(kind, 0, m.expression(api.KBool, 2), m.block(depth))
	case api.KReturn, api.KThrow, api.KOut:
		return node(kind, 0, m.expression(api.KInt, 3))
	case api.KSpawn:
		f := m.number(len(m.p.Kids), 6)
		return node(kind, f, m.args(f, 2)...)
	case api.KSend:
		if m.p.N > 0 || m.wild {
			return node(kind, m.number(m.p.N, 3), m.expression(api.KInt, 2))
		}
	case api.KSet, api.KPut, api.KFill, api.KTry:
		return m.change(kind, depth)
	}
	return node(api.KSkip, 0)
}

// change is a statement that changes a variable; KSkip, if there is none that it can change.
func (m maker) change(kind, depth int) api.Node {
	want := m.r.Intn(2)
	if kind == api.KPut {
		want = api.KArr
	} else if kind == api.KTry {
		want = api.KInt
	}
	l := m.named(kind, want)
	if m.wild && m.r.Intn(3) == 0 {
		l = []api.Node{node(kind, m.r.Intn(6))}
		if kind == api.KFill {
			l[0].M = m.r.Intn(3)
		}
	}
	if len(l) == 0 {
		return node(api.KSkip, 0)
	}
	n := l[m.r.Intn(len(l))]
	switch kind {
	case api.KPut:
		n.Kids = []api.Node{m.expression(api.KInt, 2), m.expression(api.KInt, 2)}
	case api.KTry:
		n.Kids = []api.Node{m.block(depth), m.block(depth)}
	default:
		n.Kids = []api.Node{m.expression(want, 3)}
	}
	return n
}
