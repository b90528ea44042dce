package reads_test

import (
	"math"
	"math/rand"
	"testing"

	"scoria/api"
	"scoria/reads"
)

// pair is code of two functions, with nodes.
func pair(t *testing.T) api.Code {
	t.Helper()
	c := codeOf(t, 2, "1 2: load 0, store 1, load 1, call 1 1, return, push 0, return", "1 1: load 0, push 1, op 0, return")
	c.Funs[0].From = []int{5, 4, 7, 6, 3, 1, 1}
	c.Funs[1].From = []int{12, 13, 11, 10}
	return c
}

// P13.4: code that is changed, for reads that name some of its instructions.
func TestHolds(t *testing.T) {
	named := reads.Reads{Funs: [][]int{{0, 2, 4}, {1}}}
	first := reads.Reads{Funs: [][]int{{0, 2, 4}, {}}}
	second := reads.Reads{Funs: [][]int{nil, {1}}}
	for _, x := range []struct {
		name                 string
		change               func(c *api.Code)
		named, first, second bool // for these reads
	}{
		{"nothing", func(c *api.Code) {}, true, true, true},
		{"Params of the first function", func(c *api.Code) { c.Funs[0].Params = 2 }, false, false, true},
		{"Params of the second function", func(c *api.Code) { c.Funs[1].Params = 0 }, false, true, false},
		{"Words of the first function", func(c *api.Code) { c.Funs[0].Words++ }, false, false, true},
		{"Words of the second function", func(c *api.Code) { c.Funs[1].Words-- }, false, true, false},
		{"an instruction that is not named", func(c *api.Code) { c.Funs[0].Body[1].A = 0 }, true, true, true},
		{"all instructions that are not named", func(c *api.Code) {
			for _, at := range []int{1, 3, 5, 6} {
				c.Funs[0].Body[at] = api.Instr{Op: -1, A: at, B: 7}
			}
			for _, at := range []int{0, 2, 3} {
				c.Funs[1].Body[at] = api.Instr{Op: at, A: at, B: at}
			}
		}, true, true, true},
		{"Op of the first one that is named", func(c *api.Code) { c.Funs[0].Body[0].Op = api.IStore }, false, false, true},
		{"A of the second one that is named", func(c *api.Code) { c.Funs[0].Body[2].A = 0 }, false, false, true},
		{"B of the last one that is named", func(c *api.Code) { c.Funs[0].Body[4].B = 1 }, false, false, true},
		{"A of one in the second function", func(c *api.Code) { c.Funs[1].Body[1].A = 2 }, false, true, false},
		{"one function less", func(c *api.Code) { c.Funs = c.Funs[:1] }, false, true, false},
		{"no functions", func(c *api.Code) { c.Funs = nil }, false, false, false},
		{"a function more", func(c *api.Code) { c.Funs = append(c.Funs, api.FunCode{Params: 9}) }, true, true, true},
		{"another order of functions", func(c *api.Code) { c.Funs[0], c.Funs[1] = c.Funs[1], c.Funs[0] }, false, false, false},
		{"instructions more", func(c *api.Code) { c.Funs[0].Body = append(c.Funs[0].Body, c.Funs[1].Body...) }, true, true, true},
		{"an instruction less", func(c *api.Code) { c.Funs[0].Body = c.Funs[0].Body[:6] }, true, true, true},
		{"just as many as are named", func(c *api.Code) { c.Funs[0].Body, c.Funs[1].Body = c.Funs[0].Body[:5], c.Funs[1].Body[:2] }, true, true, true},
		{"the last one that is named less", func(c *api.Code) { c.Funs[0].Body = c.Funs[0].Body[:4] }, false, false, true},
		{"the only one that is named less", func(c *api.Code) { c.Funs[1].Body = c.Funs[1].Body[:1] }, false, true, false},
		{"no instructions", func(c *api.Code) { c.Funs[1].Body = nil }, false, true, false},
		{"an instruction more at the beginning", func(c *api.Code) { c.Funs[0].Body = append([]api.Instr{{}}, c.Funs[0].Body...) }, false, false, true},
		{"From", func(c *api.Code) { c.Funs[0].From, c.Funs[1].From = []int{9, 9, 9}, nil }, true, true, true},
		{"Chans", func(c *api.Code) { c.Chans = 0 }, true, true, true},
		{"Chans that no code may have", func(c *api.Code) { c.Chans = -7 }, true, true, true},
	} {
		c, d := pair(t), pair(t)
		x.change(&d)
		for _, y := range []struct {
			r    reads.Reads
			want bool
		}{{named, x.named}, {first, x.first}, {second, x.second}, {reads.Reads{}, true}, {reads.Reads{Funs: [][]int{nil, {}, nil, {}}}, true}} {
			if reads.Holds(y.r, c, d) != y.want || reads.Holds(y.r, d, c) != y.want {
				t.Errorf("P13.4: %s: not %v for %v", x.name, y.want, y.r)
			}
		}
	}
}

// P13.4: indices that one of the codes lacks, or both, and functions that they lack.
func TestHoldsOthers(t *testing.T) {
	short, long := codeOf(t, 0, "0 0: push 1, return"), codeOf(t, 0, "0 0: push 1, return, push 2, return", "0 0: push 3, return")
	for _, x := range []struct {
		funs [][]int
		// for both codes, and for each of them and itself
		both, short, long bool
	}{
		{[][]int{{0, 1}}, true, true, true},
		{[][]int{{1, 0, 1}}, true, true, true},
		{[][]int{{2}}, false, false, true},
		{[][]int{{0, 3}}, false, false, true},
		{[][]int{{3, 0}}, false, false, true},
		{[][]int{{4}}, false, false, false},
		{[][]int{{0, 1, 4}}, false, false, false},
		{[][]int{{-1}}, false, false, false},
		{[][]int{{-1, 0}}, false, false, false},
		{[][]int{{0, -1, 1}}, false, false, false},
		{[][]int{{math.MaxInt}}, false, false, false},
		{[][]int{{0, math.MinInt}}, false, false, false},
		{[][]int{{0}, {}}, true, true, true},
		{[][]int{{0}, {}, nil, {}, {}}, true, true, true},
		{[][]int{nil, {1}}, false, false, true},
		{[][]int{{0}, {0}}, false, false, true},
		{[][]int{nil, {2}}, false, false, false},
		{[][]int{nil, nil, {0}}, false, false, false},
		{[][]int{{0}, nil, nil, nil, nil, nil, {0}}, false, false, false},
		{[][]int{nil, nil, {-1}}, false, false, false},
	} {
		r := reads.Reads{Funs: x.funs}
		if got := reads.Holds(r, short, long); got != x.both || reads.Holds(r, long, short) != x.both {
			t.Errorf("P13.4: %v for %v and both codes", got, r)
		}
		if got := reads.Holds(r, short, short); got != x.short {
			t.Errorf("P13.4: %v for %v and the short code", got, r)
		}
		if got := reads.Holds(r, long, long); got != x.long {
			t.Errorf("P13.4: %v for %v and the long code", got, r)
		}
	}
}

// P13.4: the example of the chapter.
func TestHoldsExample(t *testing.T) {
	c, d, e := choice(t), choice(t), choice(t)
	r := of(t, c, ran(t, c, []int{3}, nil, 100), 100)
	d.Funs[0].Body[4].A = 5
	e.Funs[0].Body[1].A = 5
	if !reads.Holds(r, c, d) || reads.Holds(r, c, e) {
		t.Errorf("P13.4: %v and %v for %v", reads.Holds(r, c, d), reads.Holds(r, c, e), r)
	}
	if r = of(t, c, ran(t, c, []int{-3}, nil, 100), 100); reads.Holds(r, c, d) || reads.Holds(r, c, e) {
		t.Errorf("P13.4: %v and %v for %v", reads.Holds(r, c, d), reads.Holds(r, c, e), r)
	}
}

// P13.4: any codes, valid or not.
func TestHoldsPlain(t *testing.T) {
	r := rand.New(rand.NewSource(135))
	clear(seen)
	for range 30000 {
		l, c, d := anyReads(r), anyNumbers(r), anyNumbers(r)
		want := plainHolds(l, c, d)
		if got := reads.Holds(l, c, d); got != want {
			t.Fatalf("P13.4: %v for %v, %v and %v", got, l, c, d)
		}
		count(want && !none(reads.Join(l, l)) && len(l.Funs[0]) > 1, "holds")
		count(!want, "does not hold")
	}
	expectSeen(t, 500, "holds", "does not hold")
}
