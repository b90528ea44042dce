package reads_test

import (
	"fmt"
	"math"
	"math/rand"
	"slices"
	"testing"

	"scoria/api"
	"scoria/reads"
)

// P13.5: nodes of code with two functions.
func TestNodes(t *testing.T) {
	for _, x := range []struct {
		funs [][]int
		want []int
	}{
		{nil, nil},
		{[][]int{nil, {}, nil}, nil},
		{[][]int{{0}}, []int{5}},
		{[][]int{{0, 1, 2, 3, 4, 5, 6}}, []int{1, 3, 4, 5, 6, 7}},
		{[][]int{nil, {0, 1, 2, 3}}, []int{10, 11, 12, 13}},
		{[][]int{{4, 2}, {3, 0}}, []int{3, 7, 10, 12}},
		{[][]int{{5, 6}}, []int{1}},
		{[][]int{{6, 5, 6}}, []int{1}},
		{[][]int{{0, 0}, {2, 2}}, []int{5, 11}},
		{[][]int{{7}}, nil},
		{[][]int{{7, 0}, {4, 3}}, []int{5, 10}},
		{[][]int{{-1, 0, math.MinInt}, {math.MaxInt, 1}}, []int{5, 13}},
		{[][]int{nil, nil, {0}}, nil},
		{[][]int{{0}, {1}, {0}, nil, {2}, {3}, {0}, {1}}, []int{5, 13}},
	} {
		if got := reads.Nodes(pair(t), reads.Reads{Funs: x.funs}); !slices.Equal(got, x.want) {
			t.Errorf("P13.5: %v instead of %v for %v", got, x.want, x.funs)
		}
	}
}

// P13.5: From that is shorter or longer than Body, has the same nodes in several functions, or strange ones.
func TestNodesFrom(t *testing.T) {
	all := reads.Reads{Funs: [][]int{{0, 1, 2, 3, 4, 5, 6, 7, 8}, {0, 1, 2, 3, 4, 5}}}
	for _, x := range []struct {
		name   string
		change func(c *api.Code)
		want   []int
	}{
		{"as it is", func(c *api.Code) {}, []int{1, 3, 4, 5, 6, 7, 10, 11, 12, 13}},
		{"shorter", func(c *api.Code) { c.Funs[0].From, c.Funs[1].From = c.Funs[0].From[:3], c.Funs[1].From[:3] }, []int{4, 5, 7, 11, 12, 13}},
		{"none in the first function", func(c *api.Code) { c.Funs[0].From = nil }, []int{10, 11, 12, 13}},
		{"none in the second function", func(c *api.Code) { c.Funs[1].From = []int{} }, []int{1, 3, 4, 5, 6, 7}},
		{"longer", func(c *api.Code) { c.Funs[1].From = append(c.Funs[1].From, 20, 21, 22) }, []int{1, 3, 4, 5, 6, 7, 10, 11, 12, 13}},
		{"a shorter Body", func(c *api.Code) { c.Funs[0].Body = c.Funs[0].Body[:2] }, []int{4, 5, 10, 11, 12, 13}},
		{"no Body", func(c *api.Code) { c.Funs[0].Body, c.Funs[1].Body = nil, nil }, nil},
		{"the same nodes", func(c *api.Code) { c.Funs[1].From = []int{3, 5, 2, 3} }, []int{1, 2, 3, 4, 5, 6, 7}},
		{"strange nodes", func(c *api.Code) {
			c.Funs[0].From, c.Funs[1].From = []int{-1, 0, math.MaxInt}, []int{math.MinInt, 0, -1, 256}
		}, []int{math.MinInt, -1, 0, 256, math.MaxInt}},
		{"no functions", func(c *api.Code) { c.Funs = nil }, nil},
		{"one function", func(c *api.Code) { c.Funs = c.Funs[1:] }, []int{10, 11, 12, 13}},
	} {
		c := pair(t)
		x.change(&c)
		if got := reads.Nodes(c, all); !slices.Equal(got, x.want) {
			t.Errorf("P13.5: %s: %v instead of %v", x.name, got, x.want)
		}
	}
}

// P13.5: the nodes of the chapter's example that a run reaches.
func TestNodesExample(t *testing.T) {
	c := choice(t)
	for arg, want := range map[int]string{3: "[4 5 6 7 12 13 14 15]", -3: "[4 5 6 7 9 10 14 15]"} {
		r := of(t, c, ran(t, c, []int{arg}, nil, 100), 100)
		if got := fmt.Sprint(reads.Nodes(c, r)); got != want {
			t.Errorf("P13.5: %s instead of %s for %d", got, want, arg)
		}
	}
}

// P13.5: any codes, valid or not, and any reads.
func TestNodesPlain(t *testing.T) {
	r := rand.New(rand.NewSource(136))
	clear(seen)
	for range 20000 {
		c, l := anyNumbers(r), anyReads(r)
		want := plainNodes(c, l)
		if got := reads.Nodes(c, l); !slices.Equal(got, want) {
			t.Fatalf("P13.5: %v instead of %v for %v and %v", got, want, c, l)
		}
		count(len(want) > 2, "some nodes")
	}
	for _, c := range someCodes(t, r, 60) {
		x := ran(t, c, anyArgs(r, c), anySched(r), 100)
		l := of(t, c, x, 100)
		if got, want := reads.Nodes(c, l), plainNodes(c, l); !slices.Equal(got, want) {
			t.Fatalf("P13.5: %v instead of %v for %v and %v", got, want, c, l)
		}
	}
	expectSeen(t, 1000, "some nodes")
}
