package text_test

import (
	"math/rand"
	"slices"
	"strings"
	"testing"

	"scoria/api"
	"scoria/text"
	"scoria/tree"
)

// ofLength is a valid program whose text has a given number of bytes, near 8192: many blocks, as deep as they can be, ahead of statements that make up for what is missing.
func ofLength(t *testing.T, length int) api.Node {
	t.Helper()
	for count := range 128 {
		var outer []api.Node
		for i := range 8 {
			var inner []api.Node
			for k := range 8 {
				inner = append(inner, block(slices.Repeat([]api.Node{empty}, min(max(count-2*(8*i+k), 0), 2))...))
			}
			outer = append(outer, block(inner...))
		}
		deepest := nested(10, block(outer...), func(n api.Node) api.Node { return block(n) }).Kids
		missing := length - len(text.Print(body(deepest...)))
		if missing < 80 {
			n := body(append(deepest, outs(missing)...)...)
			if len(text.Print(n)) != length || !tree.Valid(n) {
				t.Fatalf("there is no program with %d bytes", length)
			}
			return n
		}
	}
	t.Fatalf("there is no program with %d bytes", length)
	return api.Node{}
}

// outs are statements in a function that have a given number of bytes, which is 8 or more: the length of the shortest one.
func outs(length int) []api.Node {
	const least, most = 8, 18
	var l []api.Node
	for length > 0 {
		here := min(length, most)
		if length > here {
			here = min(here, length-least)
		}
		l = append(l, node(api.KOut, 0, nested(here-least, one, func(n api.Node) api.Node { return node(api.KNot, 0, n) })))
		length -= here
	}
	return l
}

// P6.4: Parse reads what Print makes of valid programs, if it is not too long.
func TestBack(t *testing.T) {
	r := rand.New(rand.NewSource(71))
	kinds := map[int]int{}
	for range 1500 {
		n := anyValid(r)
		for _, path := range placesOf(n) {
			kinds[at(n, path).Kind]++
		}
		if got, at := text.Parse(text.Print(n)); at != -1 || !same(got, n) {
			t.Fatalf("P6.4: %q is read as %v, %d, not as %v", text.Print(n), got, at, n)
		}
	}
	for kind := range api.KAny {
		if kinds[kind] < 50 {
			t.Errorf("P6.4: only %d nodes of kind %d", kinds[kind], kind)
		}
	}
	expectParse(t, text.Print(sample()), sample(), -1)
	for _, length := range []int{8100, 8190, 8191, 8192} {
		n := ofLength(t, length)
		if got, at := text.Parse(text.Print(n)); at != -1 || !same(got, n) {
			t.Errorf("P6.4: a program of %d bytes is not read: %d", length, at)
		}
	}
	for _, length := range []int{8193, 8194, 8300} {
		if got, at := text.Parse(text.Print(ofLength(t, length))); at != 8192 || !same(got, api.Node{}) {
			t.Errorf("P6.4: a program of %d bytes is read: %d", length, at)
		}
	}
}

// P6.4: Print makes of a program that was read the text of lines, whatever the text was.
func TestBackToLines(t *testing.T) {
	r := rand.New(rand.NewSource(72))
	for _, s := range someTexts(r, 50) {
		n, _ := text.Parse(s)
		expectPrint(t, n, plainPrint(n))
		tokens, _, _ := plainTokens(s)
		printed, _, _ := plainTokens(text.Print(n))
		if !slices.Equal(tokens, printed) {
			t.Errorf("P6.4: %q is read and printed as %q", s, text.Print(n))
		}
	}
}

// P6.5: other blanks between tokens.
func TestBlanks(t *testing.T) {
	r := rand.New(rand.NewSource(73))
	for i := range 300 {
		n := sample()
		if i > 0 {
			n = anyValid(r)
		}
		tokens, _, _ := plainTokens(text.Print(n))
		for _, s := range []string{joined(tokens, few), joined(tokens, many(r)), joined(tokens, anyBlanks(r)), strings.Join(tokens, " "), strings.Join(tokens, "\n"), "\n " + strings.Join(tokens, "  ") + " \n"} {
			if len(s) > api.MaxText {
				continue
			}
			if got, at := text.Parse(s); at != -1 || !same(got, n) {
				t.Fatalf("P6.5: %q is read as %v, %d, not as %v", s, got, at, n)
			}
		}
	}
}

// expectIncreasing expects increasing lines of the statements of all blocks, and one line for each statement with all of its expressions.
func expectIncreasing(t *testing.T, program, n api.Node, path []int) {
	t.Helper()
	isExpression := func(kind int) bool { return kind >= api.KNum && kind <= api.KRecv }
	line, before := text.Line(program, path), 0
	for i, kid := range n.Kids {
		place := slices.Concat(path, []int{i})
		here := text.Line(program, place)
		if n.Kind == api.KBlock && (here <= line || here <= before) {
			t.Fatalf("P6.6: the statement at %v of %v begins in line %d", place, program, here)
		}
		if isExpression(kid.Kind) && here != line {
			t.Fatalf("P6.6: the expression at %v of %v begins in line %d, not in %d", place, program, here, line)
		}
		before = here
		expectIncreasing(t, program, kid, place)
	}
}

// P6.6: lines of statements, and of their expressions.
func TestLines(t *testing.T) {
	r := rand.New(rand.NewSource(74))
	expectIncreasing(t, sample(), sample(), nil)
	for range 150 {
		n := anyValid(r)
		expectIncreasing(t, n, n, nil)
	}
}

// P6.7: behind a token that cannot stand where it is, nothing helps.
func TestErrors(t *testing.T) {
	r := rand.New(rand.NewSource(75))
	texts := someTexts(r, 10)
	var ends []string
	for _, s := range texts {
		_, offsets, _ := plainTokens(s)
		for _, at := range offsets {
			ends = append(ends, s[at:])
		}
	}
	ends = append(ends, "", "}", "0", "(", "fun 0 () {}")
	errors := 0
	for _, s := range texts {
		tokens, offsets, _ := plainTokens(s)
		for i := range tokens {
			changed := s[:offsets[i]] + " " + vocabulary[r.Intn(len(vocabulary))] + " " + s[offsets[i]:]
			_, at := text.Parse(changed)
			if at <= 0 || at == len(changed) {
				continue // It is read, not valid, or not complete.
			}
			_, wrong, _ := plainTokens(changed)
			k := slices.Index(wrong, at)
			if k < 0 {
				t.Fatalf("P6.7: %q has no token at %d", changed, at)
			}
			errors++
			token, _, _ := plainTokens(changed[at:])
			begin := changed[:at] + token[0] + " "
			for range 20 {
				end := ends[r.Intn(len(ends))]
				if _, again := text.Parse(begin + end); again != at && len(begin+end) <= api.MaxText {
					t.Fatalf("P6.7: the error of %q is at %d, but that of %q at %d", changed, at, begin+end, again)
				}
			}
		}
	}
	if errors < 500 {
		t.Errorf("P6.7: only %d errors", errors)
	}
}
