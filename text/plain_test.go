package text_test

import (
	"math/rand"
	"regexp"
	"slices"
	"strconv"
	"strings"

	"scoria/api"
	"scoria/tree"
)

func node(kind, n int, kids ...api.Node) api.Node {
	return api.Node{Kind: kind, N: n, Kids: kids}
}

func field(kind, n, m int, kids ...api.Node) api.Node {
	return api.Node{Kind: kind, N: n, M: m, Kids: kids}
}

// same reports whether two trees are equal, for which nil and empty Kids are.
func same(a, b api.Node) bool {
	return a.Kind == b.Kind && a.N == b.N && a.M == b.M && slices.EqualFunc(a.Kids, b.Kids, same)
}

// copyOf is n without any of its memory.
func copyOf(n api.Node) api.Node {
	c := api.Node{Kind: n.Kind, N: n.N, M: n.M}
	for _, kid := range n.Kids {
		c.Kids = append(c.Kids, copyOf(kid))
	}
	return c
}

// placesOf has the places of all nodes, in preorder.
func placesOf(n api.Node) [][]int {
	l := [][]int{{}}
	for i, kid := range n.Kids {
		for _, below := range placesOf(kid) {
			l = append(l, append([]int{i}, below...))
		}
	}
	return l
}

// at is the node at a place that exists.
func at(n api.Node, path []int) api.Node {
	for _, i := range path {
		n = n.Kids[i]
	}
	return n
}

// with is n with x at a place that exists.
func with(n api.Node, path []int, x api.Node) api.Node {
	if len(path) == 0 {
		return copyOf(x)
	}
	c := copyOf(n)
	c.Kids[path[0]] = with(n.Kids[path[0]], path[1:], x)
	return c
}

// alternative is a line of the chapter's grammar: a kind, its N if no number of the text sets it, and tokens. n and m are numerals for N and M, z is one for -N and not 0; v, c and f are numbered words; names in capitals are parts, with * any number of them, with ,* and ,+ as well with commas between them, and then one or more. [( is the parenthesis of ARGS, and -z the minus sign before z.
type alternative struct {
	sort  string
	kind  int
	n     int
	parts string
}

// grammar is the chapter's grammar.
var grammar = slices.Concat([]alternative{
	{"PROG", api.KProg, 0, "program n FUN*"},
	{"FUN", api.KFun, 0, "fun n ( TYPE,* ) BLOCK"},
	{"TYPE", api.KInt, 0, "int"},
	{"TYPE", api.KBool, 0, "bool"},
	{"TYPE", api.KArr, 0, "arr n"},
	{"TYPE", api.KRec, 0, "rec ( TYPE,+ )"},
	{"BLOCK", api.KBlock, 0, "{ STMT* }"},
	{"STMT", api.KBlock, 0, "{ STMT* }"},
	{"STMT", api.KSet, 0, "v = EXPR"},
	{"STMT", api.KPut, 0, "v [ EXPR ] = EXPR"},
	{"STMT", api.KFill, 0, "v . m = EXPR"},
	{"STMT", api.KIf, 0, "if EXPR BLOCK else BLOCK"},
	{"STMT", api.KWhile, 0, "while EXPR BLOCK"},
	{"STMT", api.KReturn, 0, "return EXPR"},
	{"STMT", api.KThrow, 0, "throw EXPR"},
	{"STMT", api.KTry, 0, "try BLOCK catch v BLOCK"},
	{"STMT", api.KSend, 0, "send c EXPR"},
	{"STMT", api.KSpawn, 0, "spawn f [( EXPR,* )"},
	{"STMT", api.KOut, 0, "out EXPR"},
	{"STMT", api.KSkip, 0, "skip"},
	{"EXPR", api.KNum, 0, "n"},
	{"EXPR", api.KNum, 0, "-z z"},
	{"EXPR", api.KTruth, 1, "true"},
	{"EXPR", api.KTruth, 0, "false"},
	{"EXPR", api.KVar, 0, "v"},
	{"EXPR", api.KElem, 0, "v [ EXPR ]"},
	{"EXPR", api.KField, 0, "v . m"},
	{"EXPR", api.KNot, 0, "! EXPR"},
	{"EXPR", api.KCall, 0, "f [( EXPR,* )"},
	{"EXPR", api.KRecv, 0, "recv c"},
}, binary())

// binary has an alternative for each operation.
func binary() []alternative {
	var l []alternative
	for i, op := range strings.Fields("+ - * / % & | ^ << >> < == && ||") {
		l = append(l, alternative{"EXPR", api.KBin, i, "( EXPR " + op + " EXPR )"})
	}
	return l
}

// sortsOf are the sorts of trees that Print knows.
var sortsOf = []string{"PROG", "FUN", "TYPE", "STMT", "EXPR"}

// isPart reports whether a word of the grammar is the name of a part, without what says how many of them there are.
func isPart(word string) bool { return word[0] >= 'A' && word[0] <= 'Z' }

// nameOf is the name of a part, and how many of them there are.
func nameOf(word string) (string, string) {
	name := strings.TrimRight(word, ",*+")
	return name, word[len(name):]
}

// Printing, as the chapter describes it: first the tokens that the grammar reads as a tree, and then lines of them.

// emitted are tokens: as in the text, but "[(" for the ( of ARGS, "-z" for the minus sign of a number, and "\n" where a line ends that does not end with a brace. begins has, for each node in preorder, the number of tokens before it.
type emitted struct {
	tokens []string
	begins []int
}

// numeral emits a numeral behind a word.
func (e *emitted) numeral(before string, n int) bool {
	e.tokens = append(e.tokens, before+strconv.Itoa(n))
	return n >= 0 && n <= 999
}

// node emits a node, and reports whether the grammar reads it as one of a sort.
func (e *emitted) node(n api.Node, sort string) bool {
	tokens, begins := len(e.tokens), len(e.begins)
	for _, a := range grammar {
		if a.sort != sort || a.kind != n.Kind {
			continue
		}
		*e = emitted{e.tokens[:tokens], append(e.begins[:begins], tokens)}
		if e.parts(n, a) {
			return true
		}
	}
	return false
}

// parts emits a node as an alternative says.
func (e *emitted) parts(n api.Node, a alternative) bool {
	words := strings.Fields(a.parts)
	kids, setN, setM, ok := n.Kids, false, false, true
	for i, word := range words {
		switch {
		case word == "n":
			setN, ok = true, e.numeral("", n.N)
		case word == "m":
			setM, ok = true, e.numeral("", n.M)
		case word == "z":
			setN, ok = true, n.N != 0 && e.numeral("", -n.N)
		case word == "v" || word == "c" || word == "f":
			setN, ok = true, e.numeral(word, n.N)
		case isPart(word):
			after := len(slices.DeleteFunc(slices.Clone(words[i+1:]), func(w string) bool { return !isPart(w) }))
			var here []api.Node
			here, kids, ok = split(kids, word, after)
			ok = ok && e.kids(here, word)
		default:
			e.tokens = append(e.tokens, word)
		}
		if !ok {
			return false
		}
	}
	if a.sort == "STMT" && e.tokens[len(e.tokens)-1] != "}" {
		e.tokens = append(e.tokens, "\n")
	}
	return len(kids) == 0 && (setN || n.N == a.n) && (setM || n.M == 0)
}

// split parts the kids for a word of the grammar from those for the parts after it.
func split(kids []api.Node, word string, after int) ([]api.Node, []api.Node, bool) {
	_, many := nameOf(word)
	here := len(kids) - after
	switch {
	case many == "":
		here = 1
	case many == ",+" && here < 1:
		return nil, nil, false
	}
	if here < 0 || here > len(kids) {
		return nil, nil, false
	}
	return kids[:here], kids[here:], true
}

// kids emits the kids for a word of the grammar.
func (e *emitted) kids(kids []api.Node, word string) bool {
	name, many := nameOf(word)
	if name == "FUN" {
		e.tokens = append(e.tokens, "\n")
	}
	for i, kid := range kids {
		if i > 0 && strings.HasPrefix(many, ",") {
			e.tokens = append(e.tokens, ",")
		}
		if !e.node(kid, name) {
			return false
		}
	}
	return true
}

// lines are the lines of tokens, and for each token the number of line ends before it.
func lines(tokens []string) (string, []int) {
	var out strings.Builder
	var counts []int
	depth, ends, before := 0, 0, "\n"
	end := func() {
		out.WriteString("\n")
		ends++
		before = "\n"
	}
	for i, token := range tokens {
		counts = append(counts, ends)
		if token == "\n" {
			end()
			continue
		}
		if token == "}" {
			depth--
		}
		if before == "\n" {
			out.WriteString(strings.Repeat(" ", 2*depth))
		} else if !strings.Contains(" ( [( [ . ! -z ", " "+before+" ") && !strings.Contains(" ) ] [ . , [( ", " "+token+" ") {
			out.WriteString(" ")
		}
		before = token
		switch token {
		case "[(":
			out.WriteString("(")
		case "-z":
			out.WriteString("-")
		default:
			out.WriteString(token)
		}
		if token == "{" {
			depth++
			end()
		}
		if token == "}" && (i+1 == len(tokens) || tokens[i+1] != "else" && tokens[i+1] != "catch") {
			end()
		}
	}
	return out.String(), counts
}

// plainPrint is the promise of Print.
func plainPrint(n api.Node) string {
	for _, sort := range sortsOf {
		var e emitted
		if e.node(n, sort) {
			s, _ := lines(e.tokens)
			return s
		}
	}
	return ""
}

// plainLines has the line of each place of a program, in preorder; it is empty for other trees.
func plainLines(n api.Node) []int {
	var e emitted
	if !e.node(n, "PROG") {
		return nil
	}
	_, counts := lines(e.tokens)
	var l []int
	for _, i := range e.begins {
		l = append(l, counts[i]+1)
	}
	return l
}

// Reading, as the chapter describes it: all that the grammar allows is tried, and how far that leads is the error.

var (
	tokenForm   = regexp.MustCompile(`^([a-zA-Z][a-zA-Z0-9]*|[0-9]+|==|&&|\|\||<<|>>|[(){}\[\],.=+\-*/%&|^<!])`)
	numeralForm = regexp.MustCompile(`^(0|[1-9][0-9]{0,2})$`)
)

// plainTokens has the tokens of a text with their offsets, up to the first byte at which no token begins, whose offset is returned too, or the end.
func plainTokens(s string) (tokens []string, offsets []int, end int) {
	for at := 0; at < len(s); {
		if s[at] == ' ' || s[at] == '\n' {
			at++
			continue
		}
		token := tokenForm.FindString(s[at:])
		if token == "" || token[0] >= '0' && token[0] <= '9' && !numeralForm.MatchString(token) {
			return tokens, offsets, at
		}
		tokens, offsets = append(tokens, token), append(offsets, at)
		at += len(token)
	}
	return tokens, offsets, len(s)
}

// reading is a way to read a part: the node, and the number of tokens before what is behind it.
type reading struct {
	n   api.Node
	end int
}

// plainReader finds all ways to read parts of tokens. far is the last token that it looked at.
type plainReader struct {
	tokens []string
	far    int
	known  map[string][]reading
}

// token is a token; empty behind the last one.
func (r *plainReader) token(i int) string {
	r.far = max(r.far, i)
	if i < len(r.tokens) {
		return r.tokens[i]
	}
	return ""
}

// part has all ways to read a part at a token.
func (r *plainReader) part(sort string, i int) []reading {
	key := sort + strconv.Itoa(i)
	if l, ok := r.known[key]; ok {
		return l
	}
	var l []reading
	for _, a := range grammar {
		if a.sort == sort {
			l = append(l, r.words(strings.Fields(a.parts), reading{node(a.kind, a.n), i})...)
		}
	}
	r.known[key] = l
	return l
}

// words has all ways to read words of the grammar into a node.
func (r *plainReader) words(words []string, x reading) []reading {
	if len(words) == 0 {
		return []reading{x}
	}
	word, rest := words[0], words[1:]
	if isPart(word) {
		return r.kids(word, rest, x)
	}
	token := r.token(x.end)
	x.end++
	number := func(before string, to *int, sign int) []reading {
		digits, ok := strings.CutPrefix(token, before)
		if !ok || !numeralForm.MatchString(digits) {
			return nil
		}
		n, _ := strconv.Atoi(digits)
		*to = sign * n
		return r.words(rest, x)
	}
	switch word {
	case "n":
		return number("", &x.n.N, 1)
	case "m":
		return number("", &x.n.M, 1)
	case "z":
		if token == "0" {
			return nil
		}
		return number("", &x.n.N, -1)
	case "v", "c", "f":
		return number(word, &x.n.N, 1)
	case "[(":
		word = "("
	case "-z":
		word = "-"
	}
	if token != word {
		return nil
	}
	return r.words(rest, x)
}

// kids has all ways to read the kids that a word stands for, and the words behind it.
func (r *plainReader) kids(word string, rest []string, x reading) []reading {
	name, many := nameOf(word)
	first, again := []string{}, []string{}
	switch many {
	case "*":
		again = []string{word}
	case ",*", ",+":
		again = []string{name + ",**"}
	case ",**":
		first, again = []string{","}, []string{word}
	}
	var l []reading
	if strings.Contains(many, "*") {
		l = r.words(rest, x)
	}
	for _, before := range r.words(first, x) {
		for _, kid := range r.part(name, before.end) {
			y := reading{api.Node{Kind: x.n.Kind, N: x.n.N, M: x.n.M, Kids: append(slices.Clone(x.n.Kids), kid.n)}, kid.end}
			l = append(l, r.words(slices.Concat(again, rest), y)...)
		}
	}
	return l
}

// plainParse is the promise of Parse, but for the length of the text and whether the program is valid.
func plainParse(s string) (api.Node, int) {
	tokens, offsets, end := plainTokens(s)
	r := &plainReader{tokens: tokens, known: map[string][]reading{}}
	for _, x := range r.part("PROG", 0) {
		r.token(x.end)
		if x.end == len(tokens) && end == len(s) {
			return copyOf(x.n), -1
		}
	}
	if r.far < len(tokens) {
		return api.Node{}, offsets[r.far]
	}
	return api.Node{}, end
}

// Trees and texts of the tests.

// numerals are numbers of numerals.
var numerals = []int{0, 1, 2, 7, 8, 9, 10, 11, 99, 100, 101, 256, 998, 999}

// anyNode is a node of a sort that the grammar reads; not deeper than depth, but for what is needed. number chooses its numbers.
func anyNode(r *rand.Rand, sort string, depth int, number func() int) api.Node {
	var l []alternative
	for _, a := range grammar {
		if a.sort == sort && (depth > 0 || !strings.ContainsAny(a.parts, "ABCDEFGHIJKLMNOPQRSTUVWXYZ") || sort == "BLOCK" || sort == "FUN" || sort == "PROG") {
			l = append(l, a)
		}
	}
	a := l[r.Intn(len(l))]
	n := node(a.kind, a.n)
	for _, word := range strings.Fields(a.parts) {
		switch {
		case word == "n" || word == "v" || word == "c" || word == "f":
			n.N = number()
		case word == "m":
			n.M = number()
		case word == "z":
			n.N = -max(1, number())
		case isPart(word):
			name, many := nameOf(word)
			count := 1
			switch {
			case many == ",+":
				count = 1 + r.Intn(3)
			case many != "" && depth > 0:
				count = r.Intn(4)
			case many != "":
				count = 0
			}
			for range count {
				n.Kids = append(n.Kids, anyNode(r, name, depth-1, number))
			}
		}
	}
	return n
}

// anyNumber chooses among all numerals.
func anyNumber(r *rand.Rand) func() int {
	return func() int { return numerals[r.Intn(len(numerals))] }
}

// anyValid is a well formed program.
func anyValid(r *rand.Rand) api.Node {
	for {
		n := anyNode(r, "PROG", 1+r.Intn(7), func() int { return r.Intn(3) })
		repair(r, &n)
		if tree.Valid(n) {
			return n
		}
	}
}

// repair changes what keeps many trees of the grammar from being well formed programs.
func repair(r *rand.Rand, n *api.Node) {
	isScalar := func(x api.Node) bool { return x.Kind == api.KInt || x.Kind == api.KBool }
	for i := range n.Kids {
		repair(r, &n.Kids[i])
		if n.Kind == api.KRec && !isScalar(n.Kids[i]) {
			n.Kids[i] = node(api.KInt, 0)
		}
	}
	switch n.Kind {
	case api.KArr:
		n.N = 1 + r.Intn(4)
	case api.KNum:
		n.N = r.Intn(16) - 8
	case api.KFun:
		first := slices.IndexFunc(n.Kids, func(x api.Node) bool { return !isScalar(x) })
		n.N = r.Intn(min(first, 3) + 1)
	}
}

// minimal is a node of a kind with the kids that it needs, which are as small as possible.
func minimal(kind int) api.Node {
	num, empty := node(api.KNum, 0), node(api.KBlock, 0)
	switch kind {
	case api.KRec:
		return node(kind, 0, node(api.KInt, 0))
	case api.KElem, api.KNot, api.KSet, api.KFill, api.KReturn, api.KThrow, api.KSend, api.KOut:
		return node(kind, 0, num)
	case api.KBin, api.KPut:
		return node(kind, 0, num, num)
	case api.KIf:
		return node(kind, 0, num, empty, empty)
	case api.KWhile:
		return node(kind, 0, num, empty)
	case api.KTry:
		return node(kind, 0, empty, empty)
	case api.KFun:
		return node(kind, 0, empty)
	}
	return node(kind, 0)
}

// body is a program of one function with some statements.
func body(statements ...api.Node) api.Node {
	return node(api.KProg, 0, node(api.KFun, 0, node(api.KBlock, 0, statements...)))
}

// around is a program with a node of a sort in it.
func around(sort string, n api.Node) api.Node {
	switch sort {
	case "PROG":
		return n
	case "FUN":
		return node(api.KProg, 0, n)
	case "TYPE":
		return node(api.KProg, 0, node(api.KFun, 0, n, node(api.KBlock, 0)))
	case "EXPR":
		return body(node(api.KReturn, 0, n))
	}
	return body(n)
}
