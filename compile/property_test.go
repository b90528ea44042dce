package compile_test

import (
	"math/rand"
	"slices"
	"testing"

	"scoria/api"
	"scoria/code"
	"scoria/compile"
	"scoria/text"
	"scoria/tree"
	"scoria/types"
)

// expectAgain is about folding a folded tree.
func expectAgain(t *testing.T, e api.Node) {
	t.Helper()
	once := compile.Fold(e)
	if twice := compile.Fold(once); !same(once, twice) {
		t.Fatalf("P9.4: %v becomes %v and then %v", e, once, twice)
	}
}

// P9.4: folding a folded tree. Nothing changes either, if there is a KSkip in place of a KWhile at its root.
func TestAgain(t *testing.T) {
	r := rand.New(rand.NewSource(94))
	for range 30000 {
		expectAgain(t, anyFoldable(r, 2+r.Intn(7)))
	}
	for i := range 300 {
		expectAgain(t, anyProgram(r, i%2 == 0))
	}
	parts := smallParts()
	for kind := -1; kind <= api.Kinds; kind++ {
		for _, a := range parts {
			expectAgain(t, node(kind, 0, a))
			for _, b := range parts {
				expectAgain(t, node(kind, 0, a, b))
				expectAgain(t, node(kind, api.Both, a, b))
				expectAgain(t, node(kind, 0, a, b, a))
			}
		}
	}
}

// withFolded is a program with folded blocks in the place of the blocks of its functions.
func withFolded(p api.Node) api.Node {
	q := copyOf(p)
	for f, fun := range q.Kids {
		last := len(fun.Kids) - 1
		q.Kids[f].Kids[last] = compile.Fold(fun.Kids[last])
	}
	return q
}

// P9.5: the code of programs with folded blocks.
func TestSameCode(t *testing.T) {
	r := rand.New(rand.NewSource(95))
	folded, not := 0, 0
	try := func(p api.Node) {
		t.Helper()
		q := withFolded(p)
		if _, e := types.Check(q); e != api.OK {
			not++
			return
		}
		if !same(p, q) {
			folded++
		}
		c, e := compile.Prog(p)
		d, wrong := compile.Prog(q)
		if e != api.OK || wrong != api.OK || !code.Same(c, d) {
			t.Fatalf("P9.5: %v and %v for\n%s\n%s", c, d, text.Print(p), text.Print(q))
		}
		for f := range p.Kids {
			one, _ := compile.Fun(p, f)
			two, _ := compile.Fun(q, f)
			if !slices.Equal(one.Body, two.Body) {
				t.Fatalf("P9.5: %v and %v for\n%s\n%s", one, two, text.Print(p), text.Print(q))
			}
		}
	}
	for range 2500 {
		try(anyProgram(r, false))
	}
	for _, s := range someStatements {
		for _, u := range someStatements {
			try(scene(t, s+" { "+u+" } out v4"))
		}
	}
	if folded < 1000 {
		t.Errorf("P9.5: only %d programs are folded", folded)
	}
	if not > 50 {
		t.Errorf("P9.5: %d folded programs are not valid", not)
	}
	// More statements than a block of a valid program has are left in place of blocks.
	eight := block(slices.Repeat([]api.Node{out(1)}, 8)...)
	p := node(api.KProg, 0, node(api.KFun, 0, block(eight, eight)))
	f, e := compile.Fun(p, 0)
	if e != api.OK || len(f.Body) != 34 || tree.Valid(withFolded(p)) {
		t.Errorf("P9.2: %v %d for two blocks of eight statements", f, e)
	}
	expectCode(t, p)
}

// expectSound is about the code of a program without errors. It returns how often a height was looked at before each instruction.
func expectSound(t *testing.T, p api.Node) [api.Instrs]int {
	t.Helper()
	var seen [api.Instrs]int
	c, e := compile.Prog(p)
	if e != api.OK || !code.Valid(c) {
		t.Fatalf("P9.6: the error %d, or code that is not valid: %v", e, c)
	}
	want := map[int]int{api.IStore: 1, api.IFalse: 1, api.IReturn: 1, api.IThrow: 1, api.ISend: 1, api.IOut: 1, api.IPut: 2, api.ITry: 0, api.IDone: 0}
	for i, f := range c.Funs {
		for j, h := range code.Heights(c, i) {
			op := f.Body[j].Op
			w, ok := want[op]
			if !ok || h == -1 {
				continue
			}
			seen[op]++
			if h != w {
				t.Fatalf("P9.6: the height %d before %d in %v", h, op, f.Body)
			}
		}
	}
	return seen
}

// P9.6: code is valid, with the heights that the chapter names.
func TestSound(t *testing.T) {
	r := rand.New(rand.NewSource(96))
	var seen [api.Instrs]int
	try := func(p api.Node) {
		for op, n := range expectSound(t, p) {
			seen[op] += n
		}
	}
	for range 2500 {
		try(anyProgram(r, false))
	}
	for _, x := range rowCases {
		try(scene(t, x.statements))
	}
	for _, op := range []int{api.IStore, api.IFalse, api.IReturn, api.IThrow, api.ISend, api.IOut, api.IPut, api.ITry, api.IDone} {
		if seen[op] < 200 {
			t.Errorf("P9.6: only %d instructions with the Op %d can be reached", seen[op], op)
		}
	}
}

// makers has the kinds of nodes that make each instruction.
func makers() map[int][]int {
	return map[int][]int{
		api.IPush: {api.KNum, api.KTruth, api.KBin, api.KNot, api.KFun}, api.ILoad: {api.KVar, api.KField}, api.IElem: {api.KElem}, api.IOp: {api.KBin}, api.INot: {api.KNot}, api.ICall: {api.KCall}, api.IRecv: {api.KRecv},
		api.IStore: {api.KSet, api.KFill}, api.IPut: {api.KPut}, api.IFalse: {api.KIf, api.KWhile}, api.IJump: {api.KIf, api.KWhile, api.KTry}, api.ITry: {api.KTry}, api.IDone: {api.KTry},
		api.IReturn: {api.KReturn, api.KFun}, api.IThrow: {api.KThrow}, api.IOut: {api.KOut}, api.ISend: {api.KSend}, api.ISpawn: {api.KSpawn},
	}
}

// expectFrom is about the numbers of the nodes from which the code of a program comes.
func expectFrom(t *testing.T, p api.Node) {
	t.Helper()
	c, _ := compile.Prog(p)
	paths := tree.Paths(p)
	kinds := makers()
	used := map[int]int{}
	for i, f := range c.Funs {
		for j, n := range f.From {
			if n < 0 || n >= len(paths) || len(paths[n]) == 0 || paths[n][0] != i {
				t.Fatalf("P9.7: %d is no node of the function %d of %s", n, i, text.Print(p))
			}
			if x := at(t, p, paths[n]); !slices.Contains(kinds[f.Body[j].Op], x.Kind) {
				t.Fatalf("P9.7: %v comes from %v", f.Body[j], x)
			}
			if g, ok := used[n]; ok && g != i {
				t.Fatalf("P9.7: %d belongs to two functions", n)
			}
			used[n] = i
		}
		if len(f.From) != len(f.Body) {
			t.Fatalf("P9.7: %v", f)
		}
		last := len(f.From) - 1
		if number := tree.Index(p, []int{i}); f.From[last] != number || f.From[last-1] != number {
			t.Fatalf("P9.7: the end of %v", f)
		}
	}
	for n, path := range paths {
		if x := at(t, p, path); x.Kind == api.KBlock {
			expectIncrease(t, p, c.Funs[path[0]], n, x)
		}
	}
}

// expectIncrease is about the first instructions of the statements of the block with a number.
func expectIncrease(t *testing.T, p api.Node, f api.FunCode, number int, b api.Node) {
	t.Helper()
	first, before, end := number+1, -1, -1
	for _, s := range b.Kids {
		last := first + tree.Size(s)
		for j, n := range f.From {
			if n < first || n >= last {
				continue
			}
			// The instructions of a statement stand together, behind those of the one before.
			if n <= before || j <= end {
				t.Fatalf("P9.7: the statement %v comes too early in %v of %s", s, f, text.Print(p))
			}
			before = n
			for end = j; end+1 < len(f.From) && f.From[end+1] >= first && f.From[end+1] < last; end++ {
			}
			break
		}
		first = last
	}
}

// P9.7: where the instructions come from.
func TestFrom(t *testing.T) {
	r := rand.New(rand.NewSource(97))
	for range 600 {
		expectFrom(t, anyProgram(r, false))
	}
	for _, x := range rowCases {
		expectFrom(t, scene(t, x.statements))
	}
	for _, s := range someStatements {
		for _, u := range someStatements {
			expectFrom(t, scene(t, s+" { "+u+" } out v4"))
		}
	}
}
