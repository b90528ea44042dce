package reads_test

import (
	"fmt"
	"math"
	"math/rand"
	"slices"
	"strings"
	"testing"

	"scoria/api"
	"scoria/code"
	"scoria/compile"
	"scoria/reads"
)

// maker makes the body of a function of code. Words may lie on the stack below everything that it adds.
type maker struct {
	r    *rand.Rand
	c    api.Code
	f    int
	body []api.Instr
}

// anyCode is valid code, with all that code can have and no program has: words of any kind as truth values, handlers at a height, jumps to anything.
func anyCode(r *rand.Rand) api.Code {
	for {
		c := api.Code{Chans: r.Intn(4)}
		for range 1 + r.Intn(6) {
			params := r.Intn(4)
			c.Funs = append(c.Funs, api.FunCode{Params: params, Words: params + 1 + r.Intn(4)})
		}
		for i := range c.Funs {
			m := &maker{r: r, c: c, f: i}
			m.block(3)
			m.end()
			c.Funs[i].Body = m.body
		}
		if code.Valid(c) {
			return c
		}
	}
}

// emit adds an instruction, and returns where it is.
func (m *maker) emit(op, a, b int) int {
	m.body = append(m.body, api.Instr{Op: op, A: a, B: b})
	return len(m.body) - 1
}

// here lets an instruction go on at the next one that will be added.
func (m *maker) here(at int) { m.body[at].A = len(m.body) }

// word is the index of a word of the frame.
func (m *maker) word() int { return m.r.Intn(m.c.Funs[m.f].Words) }

// elements are the operands of IElem and IPut.
func (m *maker) elements() (int, int) {
	words := m.c.Funs[m.f].Words
	b := 1 + m.r.Intn(min(4, words))
	return m.r.Intn(words - b + 1), b
}

// index adds what pushes an index, which often is in range.
func (m *maker) index(b, depth int) {
	if m.r.Intn(2) == 0 {
		m.emit(api.IPush, m.r.Intn(b+2)-1, 0)
	} else {
		m.expression(depth)
	}
}

// call adds arguments, and the instruction that takes them.
func (m *maker) call(op, depth int) {
	g := m.r.Intn(len(m.c.Funs))
	for range m.c.Funs[g].Params {
		m.expression(depth)
	}
	m.emit(op, g, m.c.Funs[g].Params)
}

// expression adds what pushes a word.
func (m *maker) expression(depth int) {
	kind := m.r.Intn(8)
	if depth <= 0 {
		kind = m.r.Intn(5) / 2
	}
	switch kind {
	case 0:
		m.emit(api.IPush, m.r.Intn(16)-8, 0)
	case 1:
		m.emit(api.ILoad, m.word(), 0)
	case 2:
		if m.c.Chans == 0 || m.r.Intn(3) > 0 {
			m.emit(api.IPush, m.r.Intn(3), 0)
		} else {
			m.emit(api.IRecv, m.r.Intn(m.c.Chans), 0)
		}
	case 3:
		a, b := m.elements()
		m.index(b, depth-1)
		m.emit(api.IElem, a, b)
	case 4:
		m.expression(depth - 1)
		m.emit(api.INot, 0, 0)
	case 5, 6:
		m.expression(depth - 1)
		m.expression(depth - 1)
		m.emit(api.IOp, m.r.Intn(api.Bins), 0)
	default:
		m.call(api.ICall, depth-1)
	}
}

func (m *maker) block(depth int) {
	for range m.r.Intn(5) {
		m.statement(depth)
	}
}

// end adds what leads to no next instruction.
func (m *maker) end() {
	if m.r.Intn(6) == 0 {
		m.emit(api.IJump, 0, 0)
		return
	}
	m.expression(2)
	m.emit([]int{api.IReturn, api.IReturn, api.IThrow}[m.r.Intn(3)], 0, 0)
}

// statement adds what leaves the stack as high as it is; blocks in it are the less deep the less depth there is.
func (m *maker) statement(depth int) {
	kind := m.r.Intn(13)
	if depth <= 0 {
		kind = m.r.Intn(7)
	}
	switch kind {
	case 0, 1:
		m.expression(2)
		m.emit([]int{api.IOut, api.IDrop}[kind], 0, 0)
	case 2:
		m.expression(2)
		m.emit(api.IStore, m.word(), 0)
	case 3:
		a, b := m.elements()
		m.index(b, 1)
		m.expression(2)
		m.emit(api.IPut, a, b)
	case 4, 5:
		m.call(api.ISpawn, 1)
	case 6:
		m.expression(1)
		if m.c.Chans > 0 {
			m.emit(api.ISend, m.r.Intn(m.c.Chans), 0)
		} else {
			m.emit(api.IOut, 0, 0)
		}
	case 7:
		m.expression(1)
		m.block(depth - 1)
		m.emit(api.IDrop, 0, 0)
	case 8:
		m.expression(1)
		m.emit([]int{api.IReturn, api.IThrow}[m.r.Intn(2)], 0, 0)
	default:
		m.jumps(kind, depth-1)
	}
}

// jumps adds a statement with blocks in it.
func (m *maker) jumps(kind, depth int) {
	start := len(m.body)
	var first int
	if kind < 11 {
		m.expression(2)
		first = m.emit(api.IFalse, 0, 0)
	} else {
		first = m.emit(api.ITry, 0, m.word())
	}
	m.block(depth)
	if kind == 9 {
		m.emit(api.IJump, start, 0)
		m.here(first)
		return
	}
	if kind >= 11 {
		m.emit(api.IDone, 0, 0)
	}
	second := m.emit(api.IJump, 0, 0)
	m.here(first)
	m.block(depth)
	m.here(second)
}

// anyThreads is valid code of processes that do little but what is visible, some of them for ever.
func anyThreads(t *testing.T, r *rand.Rand) api.Code {
	t.Helper()
	chans, funs := 1+r.Intn(2), 1+r.Intn(3)
	var texts []string
	for f := range funs {
		var l []string
		starts := []int{0}
		for range r.Intn(4) + 1 {
			c := r.Intn(chans)
			switch k := r.Intn(12); {
			case k == 0 || f == 0 && len(l) == 0 && k < 6:
				l = append(l, fmt.Sprintf("spawn %d 0", r.Intn(funs)))
			case k < 3:
				l = append(l, fmt.Sprintf("push %d", r.Intn(2)), fmt.Sprintf("send %d", c))
			case k < 5:
				l = append(l, fmt.Sprintf("recv %d", c), "out")
			case k < 6:
				l = append(l, fmt.Sprintf("recv %d", c), fmt.Sprintf("false %d", starts[r.Intn(len(starts))]))
			case k < 8:
				l = append(l, "push 1", fmt.Sprintf("send %d", c), fmt.Sprintf("recv %d", c), "drop")
			default:
				l = append(l, fmt.Sprintf("push %d", r.Intn(2)), "out")
			}
			starts = append(starts, len(l))
		}
		if r.Intn(2) > 0 {
			l = append(l, "push 0", []string{"return", "return", "throw"}[r.Intn(3)])
		} else {
			l = append(l, fmt.Sprintf("jump %d", starts[r.Intn(len(starts))]))
		}
		texts = append(texts, "0 0: "+strings.Join(l, ", "))
	}
	return codeOf(t, chans, texts...)
}

// someCodes has codes of programs, and other valid ones.
func someCodes(t *testing.T, r *rand.Rand, threes int) []api.Code {
	t.Helper()
	var l []api.Code
	for range threes {
		l = append(l, anyProgram(t, r), anyCode(r), anyThreads(t, r))
	}
	return l
}

// grower grows a program. Each of its functions has up to two parameters, which are words, and behind them a word, a truth value, an array and a record of a word and a truth value.
type grower struct {
	r     *rand.Rand
	chans int
	funs  []int // how many parameters they have
	f     int
}

func node(kind, n, m int, kids ...api.Node) api.Node {
	return api.Node{Kind: kind, N: n, M: m, Kids: kids}
}

// anyProgram is the code of a program in which nothing is wrong.
func anyProgram(t *testing.T, r *rand.Rand) api.Code {
	t.Helper()
	for {
		g := &grower{r: r, chans: r.Intn(4)}
		for range 1 + r.Intn(4) {
			g.funs = append(g.funs, r.Intn(3))
		}
		p := node(api.KProg, g.chans, 0)
		for f, params := range g.funs {
			g.f = f
			truth := node(api.KBool, 0, 0)
			word := node(api.KInt, 0, 0)
			kids := slices.Repeat([]api.Node{word}, params+1)
			kids = append(kids, truth, node(api.KArr, 3, 0), node(api.KRec, 0, 0, word, truth), g.block(2))
			p.Kids = append(p.Kids, node(api.KFun, params, 0, kids...))
		}
		if c, e := compile.Prog(p); e == api.OK {
			return c
		} else if e != api.ErrForm {
			t.Fatalf("P9.3: the error %d for %v", e, p)
		}
	}
}

// v is the number of one of the variables that every function has.
func (g *grower) v(i int) int { return g.funs[g.f] + i }

// args has arguments for a function.
func (g *grower) args(f, depth int) []api.Node {
	var l []api.Node
	for range g.funs[f] {
		l = append(l, g.word(depth))
	}
	return l
}

// word is an expression that is a word.
func (g *grower) word(depth int) api.Node {
	kind := g.r.Intn(9)
	if depth <= 0 {
		kind = g.r.Intn(4)
	}
	switch kind {
	case 0:
		return node(api.KNum, g.r.Intn(16)-8, 0)
	case 1:
		return node(api.KVar, g.r.Intn(g.funs[g.f]+1), 0)
	case 2:
		return node(api.KField, g.v(3), 0)
	case 3:
		if g.chans > 0 && g.r.Intn(2) == 0 {
			return node(api.KRecv, g.r.Intn(g.chans), 0)
		}
		return node(api.KNum, g.r.Intn(4), 0)
	case 4:
		return node(api.KElem, g.v(2), 0, g.word(0))
	case 5:
		f := g.r.Intn(len(g.funs))
		return node(api.KCall, f, 0, g.args(f, depth-1)...)
	}
	return node(api.KBin, g.r.Intn(api.Less), 0, g.word(depth-1), g.word(depth-1))
}

// truth is an expression that is a truth value.
func (g *grower) truth(depth int) api.Node {
	kind := g.r.Intn(5)
	if depth <= 0 {
		kind = g.r.Intn(2)
	}
	switch kind {
	case 0:
		return node(api.KVar, g.v(1), 0)
	case 1:
		return node(api.KField, g.v(3), 1)
	case 2:
		return node(api.KNot, 0, 0, g.truth(depth-1))
	case 3:
		return node(api.KBin, api.Both+g.r.Intn(2), 0, g.truth(depth-1), g.truth(depth-1))
	}
	return node(api.KBin, api.Less+g.r.Intn(2), 0, g.word(depth-1), g.word(depth-1))
}

func (g *grower) block(depth int) api.Node {
	b := node(api.KBlock, 0, 0)
	for range 1 + g.r.Intn(4) {
		b.Kids = append(b.Kids, g.statement(depth-1))
	}
	return b
}

// statement is a statement; blocks in it are the less deep the less depth there is.
func (g *grower) statement(depth int) api.Node {
	kind := g.r.Intn(15)
	if depth < 0 {
		kind = g.r.Intn(10)
	}
	f := g.r.Intn(len(g.funs))
	switch kind {
	case 0:
		return node(api.KSet, g.r.Intn(g.funs[g.f]+1), 0, g.word(2))
	case 1:
		return node(api.KSet, g.v(1), 0, g.truth(2))
	case 2:
		return node(api.KPut, g.v(2), 0, g.word(0), g.word(1))
	case 3:
		return node(api.KFill, g.v(3), 0, g.word(1))
	case 4:
		return node(api.KFill, g.v(3), 1, g.truth(1))
	case 5:
		return node(api.KOut, 0, 0, g.word(2))
	case 6, 7:
		return node(api.KSpawn, f, 0, g.args(f, 1)...)
	case 8:
		if g.chans > 0 {
			return node(api.KSend, g.r.Intn(g.chans), 0, g.word(1))
		}
		return node(api.KSkip, 0, 0)
	case 9:
		return node([]int{api.KThrow, api.KReturn}[g.r.Intn(2)], 0, 0, g.word(2))
	case 10, 11:
		return node(api.KIf, 0, 0, g.truth(2), g.block(depth), g.block(depth))
	case 12:
		return node(api.KWhile, 0, 0, g.truth(2), g.block(depth))
	}
	return node(api.KTry, g.v(0), 0, g.block(depth), g.block(depth))
}

// anyArgs are arguments for code.
func anyArgs(r *rand.Rand, c api.Code) []int {
	var l []int
	for range c.Funs[0].Params {
		l = append(l, r.Intn(16)-8)
	}
	return l
}

// anySched is a schedule; many of its elements are processes.
func anySched(r *rand.Rand) []int {
	var l []int
	for range []int{0, r.Intn(10), r.Intn(50), r.Intn(300)}[r.Intn(4)] {
		n := r.Intn(4)
		if r.Intn(20) == 0 {
			n = r.Intn(100) - 50
		}
		l = append(l, n)
	}
	return l
}

// anyFuel is fuel, which often is little.
func anyFuel(r *rand.Rand) int {
	return []int{r.Intn(10), r.Intn(40), r.Intn(120), 200, 4096}[r.Intn(5)]
}

// anyReads are reads of any numbers, many of which are indices of instructions.
func anyReads(r *rand.Rand) reads.Reads {
	var l reads.Reads
	for range r.Intn(5) {
		var indices []int
		for range r.Intn(5) {
			n := r.Intn(5)
			if r.Intn(40) == 0 {
				n = []int{-1, -2, 1 << 40, math.MinInt, math.MaxInt}[r.Intn(5)]
			}
			indices = append(indices, n)
		}
		l.Funs = append(l.Funs, indices)
	}
	return l
}

// anyNumbers is code of a few numbers, which often is not valid. Many of its functions are equal, or nearly so.
func anyNumbers(r *rand.Rand) api.Code {
	c := api.Code{Chans: r.Intn(2)}
	for range 1 + r.Intn(5) {
		f := api.FunCode{Params: r.Intn(12) / 11, Words: r.Intn(12) / 11}
		for range []int{6, 6, r.Intn(7)}[r.Intn(3)] {
			f.Body = append(f.Body, api.Instr{Op: r.Intn(20) / 19, A: r.Intn(20) / 19, B: r.Intn(20) / 19})
		}
		for range r.Intn(7) {
			f.From = append(f.From, r.Intn(8)-2)
		}
		c.Funs = append(c.Funs, f)
	}
	return c
}
