package ops

import "scoria/api"

// exchange is about two operators, each of which puts the operation of the other one in the place of its own. The second one stands behind the first one.
type exchange struct {
	index       int // of the first operator
	first       string
	second      string
	firstFinds  int
	secondFinds int
}

var exchanges = [...]exchange{
	{index: 0, first: "plus", second: "minus", firstFinds: api.Add, secondFinds: api.Sub},
	{index: 2, first: "less", second: "same", firstFinds: api.Less, secondFinds: api.Same},
	{index: 4, first: "both", second: "some", firstFinds: api.Both, secondFinds: api.Some},
	{index: 14, first: "times", second: "divide", firstFinds: api.Mul, secondFinds: api.Div},
	{index: 16, first: "and", second: "or", firstFinds: api.And, secondFinds: api.Or},
	{index: 18, first: "left", second: "right", firstFinds: api.Shl, secondFinds: api.Shr},
}

// node returns a node whose list of kids is its own.
func node(kind, n int, kids ...api.Node) api.Node {
	return api.Node{Kind: kind, N: n, Kids: kids}
}

// hole returns a KAny with a number.
func hole(n int) api.Node { return node(api.KAny, n) }

// operation returns the pattern of an operation with any operands.
func operation(n int) api.Node { return node(api.KBin, n, hole(0), hole(1)) }

// branch returns the pattern of a KIf with a condition, and with blocks that get numbers.
func branch(condition api.Node, then, otherwise int) api.Node {
	return node(api.KIf, 0, condition, hole(then), hole(otherwise))
}

// element returns the pattern of an element of any variable.
func element(index api.Node) api.Node { return node(api.KElem, api.AnyN, index) }

// increased returns the pattern of a word and 1.
func increased() api.Node { return node(api.KBin, api.Add, hole(0), node(api.KNum, 1)) }

// Standard returns the operators that are given; those that undo each other name each other as Back.
func Standard() []api.Op {
	l := []api.Op{
		6:  {Name: "negate", Find: branch(hole(0), 1, 2), Put: branch(node(api.KNot, 0, hole(0)), 1, 2), Back: 7},
		7:  {Name: "affirm", Find: branch(node(api.KNot, 0, hole(0)), 1, 2), Put: branch(hole(0), 1, 2), Back: 6},
		8:  {Name: "swap", Find: branch(hole(0), 1, 2), Put: branch(hole(0), 2, 1), Back: 8},
		9:  {Name: "turn", Find: operation(api.Sub), Put: node(api.KBin, api.Sub, hole(1), hole(0)), Back: 9},
		10: {Name: "rise", Find: node(api.KTruth, 0), Put: node(api.KTruth, 1), Back: 11},
		11: {Name: "fall", Find: node(api.KTruth, 1), Put: node(api.KTruth, 0), Back: 10},
		12: {Name: "one", Find: node(api.KNum, 0), Put: node(api.KNum, 1), Back: 13},
		13: {Name: "zero", Find: node(api.KNum, 1), Put: node(api.KNum, 0), Back: 12},
		20: {Name: "hush", Find: node(api.KOut, 0, hole(0)), Put: node(api.KSkip, 0), Back: noBack},
		21: {Name: "once", Find: node(api.KWhile, 0, hole(0), hole(1)), Put: node(api.KIf, 0, hole(0), hole(1), node(api.KBlock, 0)), Back: noBack},
		22: {Name: "next", Find: element(hole(0)), Put: element(increased()), Back: 23},
		23: {Name: "back", Find: element(increased()), Put: element(hole(0)), Back: 22},
	}
	for _, x := range exchanges {
		l[x.index] = api.Op{Name: x.first, Find: operation(x.firstFinds), Put: operation(x.secondFinds), Back: x.index + 1}
		l[x.index+1] = api.Op{Name: x.second, Find: operation(x.secondFinds), Put: operation(x.firstFinds), Back: x.index}
	}
	return l
}
