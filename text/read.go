package text

import (
	"strconv"
	"strings"

	"scoria/api"
	"scoria/tree"
)

// rule reads a part of a program into a node, and reports whether it stands there. If not, the reader is at the token that cannot stand there.
type rule func(n *api.Node) bool

// reader reads the tokens of a text.
type reader struct {
	text  string
	at    int    // where the next token begins
	token string // the next token; empty at the end of the text, and where no token begins
}

// next goes on to the next token.
func (r *reader) next() {
	r.at += len(r.token)
	r.at += len(run(r.text[r.at:], isBlank))
	r.token = tokenOf(r.text[r.at:])
}

// run returns the beginning of a text, as far as all of its bytes are of a sort.
func run(s string, is func(c byte) bool) string {
	end := 0
	for end < len(s) && is(s[end]) {
		end++
	}
	return s[:end]
}

// isBlank reports whether a byte may stand between tokens.
func isBlank(c byte) bool { return c == ' ' || c == '\n' }

// isDigit reports whether a byte is a digit.
func isDigit(c byte) bool { return '0' <= c && c <= '9' }

// isWord reports whether a byte may stand in a word.
func isWord(c byte) bool { return isDigit(c) || 'a' <= c && c <= 'z' || 'A' <= c && c <= 'Z' }

// tokenOf returns the token that a text begins with; the empty string, if there is none.
func tokenOf(s string) string {
	if digits := run(s, isDigit); digits != "" {
		if _, ok := numberOf(digits); !ok {
			return ""
		}
		return digits
	}
	if word := run(s, isWord); word != "" {
		return word
	}
	return signOf(s)
}

// signOf returns the sign that a text begins with; the empty string, if there is none. All signs of two bytes are one byte twice.
func signOf(s string) string {
	switch {
	case s == "":
		return ""
	case len(s) > 1 && s[0] == s[1] && strings.Contains("=&|<>", s[:1]):
		return s[:2]
	case strings.Contains("(){}[],.=+-*/%&|^<!", s[:1]):
		return s[:1]
	}
	return ""
}

// numberOf returns the number that a numeral says, and whether a text is a numeral: the shortest way to write a number without a sign.
func numberOf(s string) (int, bool) {
	n, e := strconv.Atoi(s)
	if e != nil || n < 0 || n > maxNumeral || s != strconv.Itoa(n) {
		return 0, false
	}
	return n, true
}

// accept reads a token, if it is the next one.
func (r *reader) accept(token string) bool {
	if r.token != token {
		return false
	}
	r.next()
	return true
}

// number reads a numbered word that begins with a letter, or a numeral if there is no letter, if it is the next token.
func (r *reader) number(letter string, x *int) bool {
	digits, found := strings.CutPrefix(r.token, letter)
	n, ok := numberOf(digits)
	if !found || !ok {
		return false
	}
	*x = n
	r.next()
	return true
}

// negative reads the numeral behind the minus sign of a number; it is not 0.
func (r *reader) negative(x *int) bool {
	if r.token == "0" || !r.number("", x) {
		return false
	}
	*x = -*x
	return true
}

// operation reads the sign of an operation.
func (r *reader) operation(x *int) bool {
	for i, sign := range operations {
		if r.accept(sign) {
			*x = i
			return true
		}
	}
	return false
}

// kid reads one more kid of a node.
func kid(n *api.Node, read rule) bool {
	var x api.Node
	ok := read(&x)
	n.Kids = append(n.Kids, x)
	return ok
}

// list reads one or more kids of a node, with commas between them, and the parenthesis behind them.
func (r *reader) list(n *api.Node, read rule) bool {
	for kid(n, read) {
		if !r.accept(",") {
			return r.accept(")")
		}
	}
	return false
}

// anyList reads kids of a node in parentheses, of which there may be none.
func (r *reader) anyList(n *api.Node, read rule) bool {
	return r.accept("(") && (r.accept(")") || r.list(n, read))
}

// readType reads a type.
func (r *reader) readType(n *api.Node) bool {
	switch {
	case r.accept("int"):
		n.Kind = api.KInt
		return true
	case r.accept("bool"):
		n.Kind = api.KBool
		return true
	case r.accept("arr"):
		n.Kind = api.KArr
		return r.number("", &n.N)
	case r.accept("rec"):
		n.Kind = api.KRec
		return r.accept("(") && r.list(n, r.readType)
	}
	return false
}

// expressionRule returns the rule of expressions.
func expressionRule(r *reader) rule {
	var read rule
	variable := func(n *api.Node) bool {
		switch {
		case r.accept("["):
			n.Kind = api.KElem
			return kid(n, read) && r.accept("]")
		case r.accept("."):
			n.Kind = api.KField
			return r.number("", &n.M)
		}
		n.Kind = api.KVar
		return true
	}
	read = func(n *api.Node) bool {
		switch {
		case r.number("", &n.N):
			n.Kind = api.KNum
			return true
		case r.accept("-"):
			n.Kind = api.KNum
			return r.negative(&n.N)
		case r.accept("true"):
			n.Kind, n.N = api.KTruth, 1
			return true
		case r.accept("false"):
			n.Kind = api.KTruth
			return true
		case r.number("v", &n.N):
			return variable(n)
		case r.accept("("):
			n.Kind = api.KBin
			return kid(n, read) && r.operation(&n.N) && kid(n, read) && r.accept(")")
		case r.accept("!"):
			n.Kind = api.KNot
			return kid(n, read)
		case r.number("f", &n.N):
			n.Kind = api.KCall
			return r.anyList(n, read)
		case r.accept("recv"):
			n.Kind = api.KRecv
			return r.number("c", &n.N)
		}
		return false
	}
	return read
}

// assignmentRule returns the rule of what stands behind the variable that a statement begins with.
func assignmentRule(r *reader, expression rule) rule {
	return func(n *api.Node) bool {
		switch {
		case r.accept("="):
			n.Kind = api.KSet
			return kid(n, expression)
		case r.accept("["):
			n.Kind = api.KPut
			return kid(n, expression) && r.accept("]") && r.accept("=") && kid(n, expression)
		case r.accept("."):
			n.Kind = api.KFill
			return r.number("", &n.M) && r.accept("=") && kid(n, expression)
		}
		return false
	}
}

// blockRule returns the rule of blocks.
func blockRule(r *reader) rule {
	var statement rule
	block := func(n *api.Node) bool {
		n.Kind = api.KBlock
		if !r.accept("{") {
			return false
		}
		for r.token != "}" {
			if !kid(n, statement) {
				return false
			}
		}
		return r.accept("}")
	}
	expression := expressionRule(r)
	assignment := assignmentRule(r, expression)
	statement = func(n *api.Node) bool {
		switch {
		case r.token == "{":
			return block(n)
		case r.number("v", &n.N):
			return assignment(n)
		case r.accept("if"):
			n.Kind = api.KIf
			return kid(n, expression) && kid(n, block) && r.accept("else") && kid(n, block)
		case r.accept("while"):
			n.Kind = api.KWhile
			return kid(n, expression) && kid(n, block)
		case r.accept("return"):
			n.Kind = api.KReturn
			return kid(n, expression)
		case r.accept("throw"):
			n.Kind = api.KThrow
			return kid(n, expression)
		case r.accept("try"):
			n.Kind = api.KTry
			return kid(n, block) && r.accept("catch") && r.number("v", &n.N) && kid(n, block)
		case r.accept("send"):
			n.Kind = api.KSend
			return r.number("c", &n.N) && kid(n, expression)
		case r.accept("spawn"):
			n.Kind = api.KSpawn
			return r.number("f", &n.N) && r.anyList(n, expression)
		case r.accept("out"):
			n.Kind = api.KOut
			return kid(n, expression)
		case r.accept("skip"):
			n.Kind = api.KSkip
			return true
		}
		return false
	}
	return block
}

// readProgram reads a program.
func (r *reader) readProgram(n *api.Node) bool {
	block := blockRule(r)
	function := func(n *api.Node) bool {
		n.Kind = api.KFun
		return r.accept("fun") && r.number("", &n.N) && r.anyList(n, r.readType) && kid(n, block)
	}
	n.Kind = api.KProg
	if !r.accept("program") || !r.number("", &n.N) {
		return false
	}
	for r.token == "fun" {
		if !kid(n, function) {
			return false
		}
	}
	return true
}

// Parse reads a program, and returns it with -1; otherwise it returns the offset of the first error.
func Parse(s string) (api.Node, int) {
	if len(s) > api.MaxText {
		return api.Node{}, api.MaxText
	}
	r := &reader{text: s}
	r.next()
	var n api.Node
	if !r.readProgram(&n) || r.at < len(s) {
		return api.Node{}, r.at
	}
	if !tree.Valid(n) {
		return api.Node{}, 0
	}
	return n, -1
}
