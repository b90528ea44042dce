package code_test

import (
	"math/rand"
	"slices"
	"strconv"
	"testing"

	"scoria/api"
	"scoria/code"
)

func in(op, a, b int) api.Instr { return api.Instr{Op: op, A: a, B: b} }

// Instructions that many tests need.
var (
	push   = in(api.IPush, 1, 0)
	drop   = in(api.IDrop, 0, 0)
	done   = in(api.IDone, 0, 0)
	result = in(api.IReturn, 0, 0)
	throw  = in(api.IThrow, 0, 0)
)

func body(l ...api.Instr) []api.Instr { return l }

func times(n int, x api.Instr) []api.Instr { return slices.Repeat(body(x), n) }

// scene is code with two channels and a function with a body and six words, beside which stand four more, with 0 to 3 parameters.
func scene(l ...api.Instr) api.Code {
	c := api.Code{Chans: 2, Funs: []api.FunCode{{Params: 2, Words: 6, Body: l}}}
	for params := range 4 {
		c.Funs = append(c.Funs, api.FunCode{Params: params, Words: 3, Body: body(push, result)})
	}
	return c
}

// copyOf is c without any of its memory.
func copyOf(c api.Code) api.Code {
	d := api.Code{Chans: c.Chans}
	for _, f := range c.Funs {
		f.Body, f.From = append([]api.Instr(nil), f.Body...), append([]int(nil), f.From...)
		d.Funs = append(d.Funs, f)
	}
	return d
}

// operands has all operands that are right for an instruction, by the chapter's table.
func operands(c api.Code, f api.FunCode, op int) [][2]int {
	var l [][2]int
	each := func(least, most, b int) {
		for a := least; a <= most; a++ {
			l = append(l, [2]int{a, b})
		}
	}
	switch op {
	case api.IPush:
		each(-8, 7, 0)
	case api.ILoad, api.IStore:
		each(0, f.Words-1, 0)
	case api.IElem, api.IPut:
		for b := 1; b <= 4; b++ {
			each(0, f.Words-b, b)
		}
	case api.IOp:
		each(api.Add, api.Some, 0)
	case api.IJump, api.IFalse:
		each(0, len(f.Body)-1, 0)
	case api.ICall, api.ISpawn:
		for i, g := range c.Funs {
			if g.Params >= 0 && g.Params <= 3 {
				each(i, i, g.Params)
			}
		}
	case api.ITry:
		for b := 0; b <= f.Words-1; b++ {
			each(0, len(f.Body)-1, b)
		}
	case api.ISend, api.IRecv:
		each(0, c.Chans-1, 0)
	case api.INot, api.IReturn, api.IThrow, api.IDone, api.IOut, api.IDrop:
		each(0, 0, 0)
	}
	return l
}

// stack is what an instruction pops and pushes, by the words of api.
func stack(x api.Instr) (int, int) {
	switch x.Op {
	case api.IPush, api.ILoad, api.IRecv:
		return 0, 1
	case api.IStore, api.IFalse, api.IReturn, api.IThrow, api.ISend, api.IOut, api.IDrop:
		return 1, 0
	case api.IElem, api.INot:
		return 1, 1
	case api.IPut:
		return 2, 0
	case api.IOp:
		return 2, 1
	case api.ICall:
		return x.B, 1
	case api.ISpawn:
		return x.B, 0
	}
	return 0, 0
}

// place is an instruction with a shape: a height, and after it the heights of the handlers.
type place struct {
	at    int
	shape []int
}

func (p place) key() string {
	s := strconv.Itoa(p.at)
	for _, n := range p.shape {
		s += " " + strconv.Itoa(n)
	}
	return s
}

// leads has the places to which an instruction leads; false, if it cannot be executed.
func leads(x api.Instr, p place) ([]place, bool) {
	height, list := p.shape[0], p.shape[1:]
	least := 0
	for _, h := range list {
		least = h
	}
	pops, pushes := stack(x)
	if height-pops < least {
		return nil, false
	}
	height += pushes - pops
	next := func(at int, list ...int) place {
		return place{at, append([]int{height}, list...)}
	}
	switch x.Op {
	case api.IJump:
		return []place{next(x.A, list...)}, true
	case api.IFalse:
		return []place{next(p.at+1, list...), next(x.A, list...)}, true
	case api.IReturn, api.IThrow:
		return nil, true
	case api.ITry:
		inner := append(slices.Clone(list), height)
		return []place{next(p.at+1, inner...), {x.A, p.shape}}, true
	case api.IDone:
		if len(list) == 0 {
			return nil, false
		}
		return []place{next(p.at+1, list[:len(list)-1]...)}, true
	}
	return []place{next(p.at+1, list...)}, true
}

// plainShapes has the heights of the shapes of a body; false, if they do not exist.
func plainShapes(l []api.Instr) ([]int, bool) {
	heights := slices.Repeat([]int{-1}, len(l))
	todo, seen := []place{{0, []int{0}}}, map[string]bool{}
	for len(todo) > 0 {
		p := todo[0]
		todo = todo[1:]
		if p.at < 0 || p.at >= len(l) || p.shape[0] > 32 {
			return nil, false
		}
		if seen[p.key()] {
			continue
		}
		if heights[p.at] != -1 {
			return nil, false
		}
		seen[p.key()], heights[p.at] = true, p.shape[0]
		more, ok := leads(l[p.at], p)
		if !ok {
			return nil, false
		}
		todo = append(todo, more...)
	}
	return heights, true
}

// plainHeights is what Heights has to return.
func plainHeights(c api.Code, i int) []int {
	if c.Chans < 0 || c.Chans > 3 || len(c.Funs) < 1 || len(c.Funs) > 6 || i < 0 || i >= len(c.Funs) {
		return nil
	}
	f := c.Funs[i]
	if f.Params < 0 || f.Params > 3 || f.Words < f.Params || f.Words > 24 || len(f.Body) < 1 || len(f.Body) > 2048 {
		return nil
	}
	right := map[int][][2]int{}
	for op := range api.Instrs {
		right[op] = operands(c, f, op)
	}
	for _, x := range f.Body {
		if !slices.Contains(right[x.Op], [2]int{x.A, x.B}) {
			return nil
		}
	}
	l, _ := plainShapes(f.Body)
	return l
}

// plainValid is what Valid has to return.
func plainValid(c api.Code) bool {
	for i := range c.Funs {
		if plainHeights(c, i) == nil {
			return false
		}
	}
	return len(c.Funs) > 0
}

// expectPlain compares Valid and Heights with what they have to return.
func expectPlain(t *testing.T, c api.Code) bool {
	t.Helper()
	want := plainValid(c)
	if code.Valid(c) != want {
		t.Fatalf("P8.1: Valid is not %v for %v", want, c)
	}
	for i := -1; i <= len(c.Funs); i++ {
		want, got := plainHeights(c, i), code.Heights(c, i)
		if !slices.Equal(got, want) {
			t.Fatalf("P8.2: the heights of the function %d are %v and not %v in %v", i, got, want, c)
		}
	}
	return want
}

// expectBody is about a body in the scene: its heights, or that it is not right.
func expectBody(t *testing.T, name string, want []int, l ...api.Instr) {
	t.Helper()
	c := scene(l...)
	if got := code.Heights(c, 0); !slices.Equal(got, want) {
		t.Errorf("P8.2: %s: the heights are %v and not %v", name, got, want)
	}
	if code.Valid(c) != (len(want) > 0) {
		t.Errorf("P8.1: %s: Valid is not %v", name, len(want) > 0)
	}
}

// maker makes the body of a function of code. Words may lie on the stack below everything that it adds.
type maker struct {
	r    *rand.Rand
	c    api.Code
	f    int
	body []api.Instr
}

// anyCode is valid code, unless a stack in it is too high.
func anyCode(r *rand.Rand) api.Code {
	c := api.Code{Chans: r.Intn(4)}
	for range 1 + r.Intn(6) {
		params := r.Intn(4)
		c.Funs = append(c.Funs, api.FunCode{Params: params, Words: params + 1 + r.Intn(24-params)})
	}
	for i := range c.Funs {
		m := &maker{r: r, c: c, f: i}
		m.block(3)
		m.end()
		c.Funs[i].Body = m.body
		for range m.body {
			c.Funs[i].From = append(c.Funs[i].From, r.Intn(9))
		}
	}
	return c
}

// emit adds an instruction, and returns where it is.
func (m *maker) emit(op, a, b int) int {
	m.body = append(m.body, in(op, a, b))
	return len(m.body) - 1
}

// here lets an instruction go on at the next one that will be added.
func (m *maker) here(at int) { m.body[at].A = len(m.body) }

// word is the index of a word of the frame.
func (m *maker) word() int { return m.r.Intn(m.c.Funs[m.f].Words) }

// elements are the operands of IElem and IPut.
func (m *maker) elements() (int, int) {
	words := m.c.Funs[m.f].Words
	b := 1 + m.r.Intn(min(4, words))
	return m.r.Intn(words - b + 1), b
}

// call adds arguments, and the instruction that takes them.
func (m *maker) call(op, depth int) {
	g := m.r.Intn(len(m.c.Funs))
	for range m.c.Funs[g].Params {
		m.expression(depth)
	}
	m.emit(op, g, m.c.Funs[g].Params)
}

// expression adds what pushes a word.
func (m *maker) expression(depth int) {
	kind := m.r.Intn(7)
	if depth <= 0 {
		kind = m.r.Intn(3)
	}
	switch kind {
	case 0:
		m.emit(api.IPush, m.r.Intn(16)-8, 0)
	case 1:
		m.emit(api.ILoad, m.word(), 0)
	case 2:
		if m.c.Chans == 0 {
			m.emit(api.IPush, 0, 0)
		} else {
			m.emit(api.IRecv, m.r.Intn(m.c.Chans), 0)
		}
	case 3:
		m.expression(depth - 1)
		a, b := m.elements()
		m.emit(api.IElem, a, b)
	case 4:
		m.expression(depth - 1)
		m.emit(api.INot, 0, 0)
	case 5:
		m.call(api.ICall, depth-1)
	default:
		m.expression(depth - 1)
		m.expression(depth - 1)
		m.emit(api.IOp, m.r.Intn(api.Bins), 0)
	}
}

func (m *maker) block(depth int) {
	for range m.r.Intn(4) {
		m.statement(depth)
	}
}

// end adds what leads to no next instruction, and perhaps something behind it that gets no shape.
func (m *maker) end() {
	switch m.r.Intn(8) {
	case 0:
		m.emit(api.IJump, 0, 0)
	case 1:
		m.expression(2)
		m.emit(api.IThrow, 0, 0)
	default:
		m.expression(2)
		m.emit(api.IReturn, 0, 0)
	}
	if m.r.Intn(4) == 0 {
		m.statement(0)
	}
}

// statement adds what leaves the stack as high as it is; blocks in it are the less deep the less depth there is.
func (m *maker) statement(depth int) {
	kind := m.r.Intn(12)
	if depth <= 0 {
		kind = m.r.Intn(6)
	}
	switch kind {
	case 0, 1:
		m.expression(2)
		m.emit([]int{api.IOut, api.IDrop}[kind], 0, 0)
	case 2:
		m.expression(2)
		m.emit(api.IStore, m.word(), 0)
	case 3:
		m.expression(1)
		m.expression(2)
		a, b := m.elements()
		m.emit(api.IPut, a, b)
	case 4:
		m.call(api.ISpawn, 1)
	case 5:
		m.expression(2)
		if m.c.Chans > 0 {
			m.emit(api.ISend, m.r.Intn(m.c.Chans), 0)
		} else {
			m.emit(api.IDrop, 0, 0)
		}
	case 6:
		m.expression(1)
		m.block(depth - 1)
		m.emit(api.IDrop, 0, 0)
	case 7:
		m.expression(1)
		m.emit([]int{api.IReturn, api.IThrow}[m.r.Intn(2)], 0, 0)
	default:
		m.jumps(kind, depth-1)
	}
}

// jumps adds a statement with blocks in it.
func (m *maker) jumps(kind, depth int) {
	start := len(m.body)
	var first int
	if kind < 10 {
		m.expression(2)
		first = m.emit(api.IFalse, 0, 0)
	} else {
		first = m.emit(api.ITry, 0, m.word())
	}
	m.block(depth)
	if kind == 8 {
		m.emit(api.IJump, start, 0)
		m.here(first)
		return
	}
	if kind >= 10 {
		m.emit(api.IDone, 0, 0)
	}
	second := m.emit(api.IJump, 0, 0)
	m.here(first)
	m.block(depth)
	m.here(second)
}

// changed is c with another instruction, number, or order of instructions somewhere.
func changed(r *rand.Rand, c api.Code) api.Code {
	d := copyOf(c)
	f := &d.Funs[r.Intn(len(d.Funs))]
	if len(f.Body) == 0 {
		return d
	}
	i := r.Intn(len(f.Body))
	x := &f.Body[i]
	step := []int{-1, 1, r.Intn(9) - 4}[r.Intn(3)]
	switch r.Intn(9) {
	case 0:
		x.Op = r.Intn(api.Instrs+2) - 1
	case 1, 2:
		x.A += step
	case 3:
		x.B += step
	case 4:
		x.A = r.Intn(len(f.Body) + 1)
	case 5:
		f.Body = slices.Delete(f.Body, i, i+1)
	case 6:
		y := f.Body[r.Intn(len(f.Body))]
		f.Body = slices.Insert(f.Body, i, y)
	case 7:
		op := r.Intn(api.Instrs)
		if l := operands(d, *f, op); len(l) > 0 {
			y := l[r.Intn(len(l))]
			*x = in(op, y[0], y[1])
		}
	default:
		j := r.Intn(len(f.Body))
		f.Body[i], f.Body[j] = f.Body[j], f.Body[i]
	}
	return d
}
