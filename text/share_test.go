package text_test

import (
	"math/rand"
	"reflect"
	"slices"
	"testing"

	"scoria/api"
	"scoria/text"
)

// mark is a node that no tree of the tests has.
func mark() api.Node { return node(-777, -777) }

// roomy is n with room behind all of its Kids, where a careless append would leave its traces.
func roomy(n api.Node) api.Node {
	c := api.Node{Kind: n.Kind, N: n.N, M: n.M, Kids: make([]api.Node, 0, len(n.Kids)+3)}
	for _, kid := range n.Kids {
		c.Kids = append(c.Kids, roomy(kid))
	}
	return c
}

// withRoom is n with all that lies in the room behind its Kids, as kids.
func withRoom(n api.Node) api.Node {
	c := api.Node{Kind: n.Kind, N: n.N, M: n.M}
	for _, kid := range n.Kids[:cap(n.Kids)] {
		c.Kids = append(c.Kids, withRoom(kid))
	}
	return c
}

// spoil changes all that can be changed of a tree, also the room behind its Kids.
func spoil(n api.Node) {
	kids := n.Kids[:cap(n.Kids)]
	for i := range kids {
		spoil(kids[i])
		kids[i] = mark()
	}
}

// Rules: arguments are not changed, and do not change results later.
func TestArgumentsStay(t *testing.T) {
	r := rand.New(rand.NewSource(76))
	for range 200 {
		n := roomy(anyNode(r, sortsOf[r.Intn(len(sortsOf))], 3, anyNumber(r)))
		if r.Intn(4) == 0 {
			n.M = 1
		}
		before, want := withRoom(n), plainPrint(n)
		printed := text.Print(n)
		for _, path := range append(placesOf(n), []int{99}, []int{-1, 0}) {
			path = slices.Grow(path, 3)
			beforePath := slices.Clone(path[:cap(path)])
			text.Line(n, path)
			if !slices.Equal(path[:cap(path)], beforePath) {
				t.Fatalf("Rules: the place %v has changed", beforePath)
			}
		}
		if !reflect.DeepEqual(withRoom(n), before) {
			t.Fatalf("Rules: the tree %v has changed", n)
		}
		spoil(n)
		if printed != want {
			t.Fatalf("Rules: the text %q has changed", want)
		}
	}
}

// Rules: trees that were read share no memory with each other.
func TestResultsShareNothing(t *testing.T) {
	r := rand.New(rand.NewSource(77))
	for _, s := range someTexts(r, 20) {
		one, _ := text.Parse(s)
		want := copyOf(one)
		two, _ := text.Parse(s)
		spoil(one)
		three, _ := text.Parse(s)
		if !same(two, want) || !same(three, want) {
			t.Fatalf("Rules: trees of %q share memory", s)
		}
	}
}

// Rules: the kids of each node of a tree that was read have memory of their own.
func TestPartsShareNothing(t *testing.T) {
	s := text.Print(sample())
	for _, path := range placesOf(sample()) {
		n, _ := text.Parse(s)
		x := at(n, path)
		_ = append(x.Kids, mark())
		if !same(n, sample()) {
			t.Fatalf("Rules: the kids at %v share memory with others", path)
		}
		want := copyOf(n)
		for i := range x.Kids {
			x.Kids[i] = mark()
			want = with(want, slices.Concat(path, []int{i}), mark())
		}
		if !same(n, want) {
			t.Fatalf("Rules: the kids at %v share memory with others", path)
		}
	}
}

// P1, Rules: every function returns for many arguments, and equal calls have equal results.
func TestEqualCalls(t *testing.T) {
	r := rand.New(rand.NewSource(78))
	for range 500 {
		n := api.Node{Kind: r.Intn(api.Kinds+2) - 1, N: numbersAround()[r.Intn(len(numbersAround()))], M: r.Intn(3) - 1}
		for range r.Intn(4) {
			n.Kids = append(n.Kids, anyNode(r, sortsOf[r.Intn(len(sortsOf))], 2, anyNumber(r)))
		}
		for _, path := range [][]int{nil, {}, {0}, {0, 0}, {1}, {-1}, {0, -1}} {
			if text.Print(n) != text.Print(copyOf(n)) || text.Line(n, path) != text.Line(copyOf(n), path) {
				t.Fatalf("Rules: equal calls have other results")
			}
		}
		b := make([]byte, r.Intn(50))
		for i := range b {
			b[i] = byte(r.Intn(256))
		}
		one, at := text.Parse(string(b))
		two, again := text.Parse(string(b))
		if at != again || !reflect.DeepEqual(one, two) {
			t.Fatalf("Rules: equal calls have other results")
		}
	}
}
