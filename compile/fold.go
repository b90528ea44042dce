package compile

import (
	"scoria/api"
	"scoria/word"
)

// part is a node of a folded tree. A block keeps all of its kids; its statements are those that are left.
type part struct {
	kind, n, m int
	from       int  // the number, in preorder before folding, of the node that stood in its place
	loop       bool // a KSkip that has taken the place of a KWhile
	kids       []part
}

// fold folds a tree whose nodes have the numbers from first on.
func fold(e api.Node, first int) part {
	next := first
	var visit func(x api.Node) part
	visit = func(x api.Node) part {
		p := part{kind: x.Kind, n: x.N, m: x.M, from: next}
		next++
		for _, kid := range x.Kids {
			p.kids = append(p.kids, visit(kid))
		}
		return p.replaced()
	}
	return visit(e)
}

// replaced returns what a part becomes whose kids are folded.
func (p part) replaced() part {
	switch p.kind {
	case api.KBin:
		return p.computed()
	case api.KNot:
		if p.n == 0 && p.m == 0 && len(p.kids) == 1 && p.kids[0].constant(api.KTruth) {
			return part{kind: api.KTruth, n: 1 - p.kids[0].n, from: p.from}
		}
	case api.KIf:
		if len(p.kids) == 3 && p.kids[0].constant(api.KTruth) {
			return p.kids[2-p.kids[0].n]
		}
	case api.KWhile:
		if len(p.kids) == 2 && p.kids[0].constant(api.KTruth) && p.kids[0].n == 0 {
			return part{kind: api.KSkip, from: p.from, loop: true}
		}
	}
	return p
}

// computed returns what a KBin becomes: its result, if there is one already.
func (p part) computed() part {
	operand, result := api.KNum, api.KNum
	if p.n == api.Both || p.n == api.Some {
		operand = api.KTruth
	}
	if word.Truth(p.n) {
		result = api.KTruth
	}
	if p.n < api.Add || p.n > api.Some || p.m != 0 || len(p.kids) != 2 || !p.kids[0].constant(operand) || !p.kids[1].constant(operand) {
		return p
	}
	n, code := word.Op(p.n, p.kids[0].n, p.kids[1].n)
	if code != 0 {
		return p
	}
	return part{kind: result, n: n, from: p.from}
}

// constant reports whether a part is a constant of a kind, KNum or KTruth.
func (p part) constant(kind int) bool {
	least, most := api.MinWord, api.MaxWord
	if kind == api.KTruth {
		least, most = 0, 1
	}
	return p.kind == kind && p.n >= least && p.n <= most && p.m == 0 && len(p.kids) == 0
}

// statements returns what is left of the kids of a block. All blocks within it are opened at once: statements that passed from each one to the one around it would be copied as often as there are levels.
func (p part) statements() []part {
	var left []part
	// open reports whether what stands after a block is left, too.
	var open func(b part) bool
	open = func(b part) bool {
		for _, kid := range b.kids {
			if kid.kind == api.KBlock {
				if !open(kid) {
					return false
				}
			} else if !kid.loop {
				left = append(left, kid)
			}
			if kid.kind == api.KReturn || kid.kind == api.KThrow {
				return false
			}
		}
		return true
	}
	open(p)
	return left
}

// node returns the tree of a part.
func (p part) node() api.Node {
	n := api.Node{Kind: p.kind, N: p.n, M: p.m}
	kids := p.kids
	if p.kind == api.KBlock {
		kids = p.statements()
	}
	for _, kid := range kids {
		n.Kids = append(n.Kids, kid.node())
	}
	return n
}

// Fold returns a tree with constants in the place of what can be computed, and without what is never executed.
func Fold(e api.Node) api.Node {
	return fold(e, 0).node()
}
