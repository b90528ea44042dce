package text_test

import (
	"math/rand"
	"slices"
	"strings"
	"testing"

	"scoria/api"
	"scoria/text"
)

// vocabulary has tokens of all kinds, and words that are none of the grammar.
var vocabulary = strings.Fields("program fun int bool arr rec if else while return throw try catch send spawn out skip recv true false v0 v1 v12 c0 c2 f0 f5 v c f v00 x9 0 1 7 10 999 ( ) { } [ ] , . = == + - * / % & && | || ^ << >> < !")

// sample is a program with each kind of node, and each kind of statement in a block of each other one.
func sample() api.Node {
	i, b := node(api.KInt, 0), node(api.KBool, 0)
	loop := node(api.KWhile, 0, node(api.KNot, 0, field(api.KField, 2, 1)), block(node(api.KTry, 0, block(empty), block(skip))))
	cond := node(api.KIf, 0, bin(api.Less, v0, one), block(loop), block(node(api.KIf, 0, yes, block(skip), empty), node(api.KOut, 0, node(api.KNum, -8))))
	try := node(api.KTry, 0, block(node(api.KPut, 1, v0, node(api.KElem, 1, zero)), cond), block(node(api.KThrow, 0, v0)))
	first := block(try, block(node(api.KSpawn, 1, one, bin(api.Shl, one, v0)), field(api.KFill, 2, 0, node(api.KRecv, 0))), node(api.KReturn, 0, node(api.KCall, 1, v0, one)))
	second := block(node(api.KSend, 1, bin(api.Sub, v0, node(api.KNum, -1))), node(api.KSet, 1, node(api.KTruth, 0)), node(api.KOut, 0, node(api.KCall, 2)))
	return node(api.KProg, 3, node(api.KFun, 1, i, node(api.KArr, 4), node(api.KRec, 0, i, b), first), node(api.KFun, 2, i, b, second), node(api.KFun, 0, empty))
}

// joined is a text of tokens with blanks between them where they are needed, and elsewhere as a function says.
func joined(tokens []string, blanks func(needed bool) string) string {
	isWord := func(s string) bool { return !strings.ContainsAny(s[:1], "(){}[],.=+-*/%&|^<>!") }
	var out strings.Builder
	for i, token := range tokens {
		out.WriteString(blanks(i > 0 && isWord(token) == isWord(tokens[i-1])))
		out.WriteString(token)
	}
	return out.String() + blanks(false)
}

// few has one space where blanks are needed, and none elsewhere.
func few(needed bool) string {
	if needed {
		return " "
	}
	return ""
}

// many has some spaces and line ends everywhere.
func many(r *rand.Rand) func(bool) string {
	return func(bool) string { return []string{" ", "\n", "  ", "\n\n", " \n", "\n ", "    \n\n   "}[r.Intn(7)] }
}

// anyBlanks has any number of spaces and line ends, but some where they are needed.
func anyBlanks(r *rand.Rand) func(bool) string {
	some := many(r)
	return func(needed bool) string {
		if !needed && r.Intn(2) == 0 {
			return ""
		}
		return some(needed)
	}
}

// someTexts are texts of programs, which are not long, with few and with many blanks.
func someTexts(r *rand.Rand, count int) []string {
	l := []string{text.Print(sample()), "program 0 fun 0(){}"}
	for len(l) < count {
		if s := text.Print(anyValid(r)); len(s) < 500 {
			l = append(l, s)
		}
	}
	for _, s := range slices.Clone(l) {
		tokens, _, _ := plainTokens(s)
		l = append(l, joined(tokens, few), joined(tokens, many(r)))
	}
	return l
}

// P6.2: texts that are cut anywhere.
func TestParseCut(t *testing.T) {
	for _, s := range someTexts(rand.New(rand.NewSource(63)), 8) {
		for end := range len(s) {
			at := expectRead(t, s[:end])
			if _, offsets, stop := plainTokens(s[:end]); at > 0 && at != end && at != stop && at != offsets[len(offsets)-1] {
				t.Fatalf("P6.2: the error of %q is at %d", s[:end], at)
			}
		}
	}
}

// P6.2: texts that are followed by other tokens, or by bytes at which none begins.
func TestParseFollowed(t *testing.T) {
	s := text.Print(sample())
	for _, blanks := range []string{"", " ", "\n\n  "} {
		expectParse(t, s+blanks, sample(), -1)
		for _, token := range vocabulary {
			if token != "fun" {
				expectError(t, s+blanks+"@"+token)
				expectError(t, s+blanks+"@"+token+" fun 0 () {}")
			}
		}
		for _, token := range []string{"?", ">", "\t", "\r", "\x00", "_", "é", "\xff", "1234", "00"} {
			expectError(t, s+blanks+"@"+token)
			expectError(t, s+blanks+"@"+token+" fun 0 () {}")
		}
		expectError(t, s+blanks+"fun@")
		expectError(t, s+blanks+"fun 0 () {@")
	}
}

// P6.2: bytes at which no token begins, ahead of and behind a token that cannot stand there; whichever comes first.
func TestParseFirstError(t *testing.T) {
	for _, s := range []string{
		"@? )", "@) ?", "skip @? )", "skip @) ?", "skip@?)", "skip@)?", "out @? 1 1", "out 1 @1 ?", "out 1 @? 1", "out (1 @? + )", "out (1 + @) ?", "out 1@?", "out v0@?", "out @?v0", "v0 @1 = ?", "v0 @? 1", "v0 = @00 skip 1", "skip @1 00", "v0@#", "v0 = @else 1000", "@1000 else",
		"v0[@? ]", "v0[@] ?", "if true @skip ?", "if true @? skip", "if true {@?}", "if true {}@?", "out f0(@, ?)", "out f0(@?,)",
	} {
		expectError(t, head+s+tail)
		expectError(t, head+s)
	}
	for _, s := range []string{"@?", "@? program", "@fun ?", " @?", "program @?", "program @fun ?", "program 0 @? fun", "program 0 @1 ?", "program@?0", "program 0@?", "@pro?gram 0", "@program1?", "program 0 fun 0 (@?int)", "program 0 fun 0 (int@?)", "program 0 fun 0 (int) {@?", "program 0 fun 0 (int) {} @1 ?"} {
		expectError(t, s)
	}
}

// P6.2: each byte at each place of a text, ahead of what stands there and instead of it.
func TestParseBytes(t *testing.T) {
	for _, s := range []string{head + "v0=(v1<<-1)out!v2.1try{v0[0]=f5(1,v12)}catch v0{send c0 recv c1}" + tail, "program 2\nfun 1 (int, arr 3) {\n}\n"} {
		for i := range len(s) + 1 {
			for c := range 256 {
				expectRead(t, s[:i]+string([]byte{byte(c)})+s[i:])
				if i < len(s) {
					expectRead(t, s[:i]+string([]byte{byte(c)})+s[i+1:])
				}
			}
		}
	}
}

// P6.2: each token of the vocabulary at each place of a text, ahead of what stands there and instead of it, and each token left out or exchanged with the next one.
func TestParseTokens(t *testing.T) {
	r := rand.New(rand.NewSource(65))
	tokens, _, _ := plainTokens(text.Print(sample()))
	with := func(l ...[]string) { expectRead(t, joined(slices.Concat(l...), anyBlanks(r))) }
	for i := range len(tokens) {
		for _, token := range vocabulary {
			with(tokens[:i], []string{token}, tokens[i:])
			with(tokens[:i], []string{token}, tokens[i+1:])
		}
		with(tokens[:i], tokens[i+1:])
		if i > 0 {
			with(tokens[:i-1], []string{tokens[i], tokens[i-1]}, tokens[i+1:])
		}
	}
}

// P6.2: all lists of two tokens behind some beginnings, and lists of any tokens.
func TestParseLists(t *testing.T) {
	for _, s := range []string{"program 0 fun 0 (", "program 0 fun 0 (rec ", "program 0 fun 0 () ", head, head + "v0 ", head + "v0 = ", head + "out v0 ", head + "out (1 ", head + "out f0(", head + "try {} ", head + "if 1 {} ", head + "spawn f0 ", head + "send c0 "} {
		for _, a := range vocabulary {
			for _, b := range vocabulary {
				expectRead(t, s+a+" "+b)
			}
		}
	}
	r := rand.New(rand.NewSource(66))
	for range 2000 {
		tokens := strings.Fields("program 0 fun 0 ( ) {")[:r.Intn(8)]
		for range r.Intn(8) {
			tokens = append(tokens, vocabulary[r.Intn(len(vocabulary))])
		}
		expectRead(t, joined(tokens, anyBlanks(r)))
		expectRead(t, strings.Join(tokens, ""))
	}
}

// P6.2: signs without blanks between them, where a longer sign could begin, and words and numerals without blanks.
func TestParseGlued(t *testing.T) {
	signs := strings.Fields("( ) { } [ ] , . = == + - * / % & && | || ^ << >> < > !")
	for _, before := range []string{"", "out 1", "out (1", "out v0", "v0", "v0[1]"} {
		for _, a := range signs {
			for _, b := range signs {
				expectRead(t, head+before+a+b+"1)"+tail)
				for _, c := range []string{"=", "&", "|", "<", ">", "-", "!"} {
					expectRead(t, head+before+a+b+c+"1)"+tail)
				}
			}
		}
	}
	for _, a := range vocabulary {
		for _, b := range vocabulary {
			expectRead(t, head+a+b+tail)
			expectRead(t, head+"out "+a+b+tail)
			expectRead(t, "program 0"+a+b)
		}
	}
}

// P6.2: texts that are empty or blank.
func TestParseBlank(t *testing.T) {
	for _, s := range []string{"", " ", "\n", "  ", " \n \n\n ", strings.Repeat(" ", 8191), strings.Repeat("\n", 8192)} {
		expectParse(t, s, api.Node{}, len(s))
	}
	for _, s := range []string{"@\t", "@\r\n", " @\v", "\n@\f", "@\u00a0", " @\x00", "@\xef\xbb\xbfprogram 0"} {
		expectError(t, s)
	}
}

// P6.2: texts of 8192 and 8193 bytes.
func TestParseLengths(t *testing.T) {
	const most = 8192
	fill := func(s, end string, length int) string {
		return s + strings.Repeat(" ", length-len(s)-len(end)) + end
	}
	whole := text.Print(sample())
	for _, c := range []struct {
		s, end string
		want   api.Node
		at     int
	}{
		{whole, "", sample(), -1},
		{"", whole, sample(), -1},
		{"program 0", "", api.Node{}, 0},
		{"", "program 0", api.Node{}, 0},
		{"", "", api.Node{}, most},
		{head, "", api.Node{}, most},
		{head, "skip", api.Node{}, most},
		{"?", "", api.Node{}, 0},
		{whole, "?", api.Node{}, most - 1},
		{whole, "skip", api.Node{}, most - 4},
		{whole, "1234", api.Node{}, most - 4},
		{"program ?", "", api.Node{}, 8},
	} {
		expectParse(t, fill(c.s, c.end, most), c.want, c.at)
		for _, length := range []int{most + 1, most + 2, 2 * most, 10 * most, 65536} {
			expectParse(t, fill(c.s, c.end, length), api.Node{}, most)
		}
	}
}

// P6.2: very deep texts, and very long lists.
func TestParseDeep(t *testing.T) {
	const depth = 1300
	for _, c := range []struct{ before, open, middle, shut string }{
		{head, "{", "", "}"},
		{head, "if 1{", "", "}"},
		{head, "try{}catch v0{", "", "}"},
		{head + "out ", "!", "1", ""},
		{head + "out ", "(", "1", "+1)"},
		{head + "out ", "v0[", "1", "]"},
		{head + "out ", "f0(", "1", ")"},
		{head, "skip ", "", ""},
		{head, "", "", "skip}"},
		{head + "spawn f0(", "1,", "1", ""},
		{"program 0 fun 0 (", "rec(", "int", ")"},
		{"program 0 fun 0 (", "int,", "int", ""},
		{"program 0 fun 0 () ", "{out", "1", "}"},
		{"program 0 ", "fun 0(){}", "", ""},
	} {
		n := min(depth, (api.MaxText-50)/len(c.open+c.shut))
		open := c.before + strings.Repeat(c.open, n)
		expectRead(t, open)
		for _, more := range []string{"", "}", "){}", "?"} {
			expectRead(t, open+c.middle+strings.Repeat(c.shut, n-1)+more)
			expectRead(t, open+c.middle+strings.Repeat(c.shut, n)+more)
		}
	}
	expectInvalid(t, head+strings.Repeat("{", depth)+strings.Repeat("}", depth)+tail)
	expectInvalid(t, head+"out "+strings.Repeat("(", depth)+"1"+strings.Repeat("*1)", depth)+tail)
	expectInvalid(t, head+"out "+strings.Repeat("!", 8000)+"v0"+tail)
	expectInvalid(t, head+strings.Repeat("skip\n", depth)+tail)
	expectInvalid(t, "program 0 fun 0 ("+strings.Repeat("rec(", depth)+"int"+strings.Repeat(")", depth)+"){}")
	expectError(t, "program 0 fun 0 ("+strings.Repeat("rec(", depth)+"int"+strings.Repeat(")", depth)+"@{}")
	expectError(t, head+strings.Repeat("{", api.MaxText-len(head))+"@")
	expectError(t, head+"out "+strings.Repeat("!", 8000)+"@}")
}
