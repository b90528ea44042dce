package word_test

import (
	"math"
	"math/big"
	"math/rand"
	"slices"
	"testing"

	"scoria/api"
	"scoria/word"
)

// names are the operations of the chapter, by their numbers.
var names = [api.Bins]string{
	api.Add: "Add", api.Sub: "Sub", api.Mul: "Mul", api.Div: "Div", api.Mod: "Mod",
	api.And: "And", api.Or: "Or", api.Xor: "Xor", api.Shl: "Shl", api.Shr: "Shr",
	api.Less: "Less", api.Same: "Same", api.Both: "Both", api.Some: "Some",
}

// allWords has the words of the chapter; it does not use the constants of the program.
func allWords() []int {
	return []int{-8, -7, -6, -5, -4, -3, -2, -1, 0, 1, 2, 3, 4, 5, 6, 7}
}

// pairs calls f with every pair of words.
func pairs(f func(a, b int)) {
	for _, a := range allWords() {
		for _, b := range allWords() {
			f(a, b)
		}
	}
}

// edgeInts has the least and the greatest int, what lies around the powers of two, and the multiples of 16 and what lies beside them.
func edgeInts() []int {
	l := []int{math.MinInt, math.MaxInt}
	for d := range 33 {
		l = append(l, math.MinInt+d, math.MaxInt-d)
	}
	for k := range 63 {
		for d := -1; d <= 1; d++ {
			l = append(l, 1<<k+d, -1<<k+d)
		}
	}
	slices.Sort(l)
	return slices.Compact(l)
}

// smallInts has the integers around the words.
func smallInts() []int {
	var l []int
	for n := -70; n <= 70; n++ {
		l = append(l, n)
	}
	return l
}

// randomInts has integers of all lengths, always the same ones.
func randomInts(many int) []int {
	r := rand.New(rand.NewSource(4))
	l := make([]int, many)
	for i := range l {
		l[i] = int(r.Uint64()) >> r.Intn(64)
	}
	return l
}

// noOperations has integers that are no operations: those beside them, those whose low bits are an operation's, and the outermost ones.
func noOperations() []int {
	var l []int
	for op := -300; op <= 600; op++ {
		l = append(l, op)
	}
	for _, n := range edgeInts() {
		for op := range api.Bins {
			l = append(l, n+op, n-op)
		}
	}
	for op := range api.Bins {
		l = append(l, op+1<<8, op+1<<16, op+1<<32, op-1<<8, op-1<<16, op-1<<32)
	}
	return slices.DeleteFunc(l, func(op int) bool { return op >= 0 && op < len(names) })
}

// plainBits is the number from 0 to 15 that differs from n by a multiple of 16.
func plainBits(n int) int {
	m := new(big.Int).Mod(big.NewInt(int64(n)), big.NewInt(16))
	return int(m.Int64())
}

// plainWord is the integer from -8 to 7 that differs from n by a multiple of 16.
func plainWord(n int) int {
	bits := plainBits(n)
	for _, w := range allWords() {
		if w == bits || w == bits-16 {
			return w
		}
	}
	panic("no word")
}

// bitByBit combines the bits of two words, one after the other.
func bitByBit(a, b int, combine func(x, y bool) bool) int {
	a, b = plainBits(a), plainBits(b)
	bits := 0
	for _, value := range []int{1, 2, 4, 8} {
		if combine(a/value%2 == 1, b/value%2 == 1) {
			bits += value
		}
	}
	return plainWord(bits)
}

func plainTruth(b bool) int {
	if b {
		return 1
	}
	return 0
}

// power returns 2^k, where k is what the chapter makes of the second operand of a shift.
func power(b int) int {
	p := 1
	for range plainBits(b) % 4 {
		p *= 2
	}
	return p
}

// quotient is rounded towards 0.
func quotient(a, b int) int {
	return int(math.Trunc(float64(a) / float64(b)))
}

// plainOp is P4.3 and P4.4 word for word, for two words.
func plainOp(op, a, b int) (int, int) {
	switch op {
	case api.Add:
		return plainWord(a + b), 0
	case api.Sub:
		return plainWord(a - b), 0
	case api.Mul:
		return plainWord(a * b), 0
	case api.Div, api.Mod:
		if b == 0 {
			return 0, api.ExZero
		}
		if op == api.Div {
			return plainWord(quotient(a, b)), 0
		}
		return plainWord(a - b*quotient(a, b)), 0
	case api.And:
		return bitByBit(a, b, func(x, y bool) bool { return x && y }), 0
	case api.Or:
		return bitByBit(a, b, func(x, y bool) bool { return x || y }), 0
	case api.Xor:
		return bitByBit(a, b, func(x, y bool) bool { return x != y }), 0
	case api.Shl:
		return plainWord(a * power(b)), 0
	case api.Shr:
		return plainWord(int(math.Floor(float64(a) / float64(power(b))))), 0
	case api.Less:
		return plainTruth(a < b), 0
	case api.Same:
		return plainTruth(a == b), 0
	case api.Both:
		return plainTruth(a != 0 && b != 0), 0
	case api.Some:
		return plainTruth(a != 0 || b != 0), 0
	}
	return 0, 0
}

// expectOp checks a call of Op.
func expectOp(t *testing.T, promise string, op, a, b, want, code int) {
	t.Helper()
	if r, c := word.Op(op, a, b); r != want || c != code {
		t.Errorf("%s: Op(%d, %d, %d) is %d, %d; want %d, %d", promise, op, a, b, r, c, want, code)
	}
}

// value returns the result of an operation that must have one.
func value(t *testing.T, op, a, b int) int {
	t.Helper()
	r, code := word.Op(op, a, b)
	if code != 0 {
		t.Fatalf("P4.3: %s of %d and %d has the code %d", names[op], a, b, code)
	}
	return r
}

// P4.1: the words themselves, and the integers beside them.
func TestWrapAndBitsKnown(t *testing.T) {
	for _, x := range []struct{ n, word, bits int }{
		{0, 0, 0}, {1, 1, 1}, {7, 7, 7}, {8, -8, 8}, {9, -7, 9}, {15, -1, 15}, {16, 0, 0}, {17, 1, 1}, {23, 7, 7}, {24, -8, 8},
		{-1, -1, 15}, {-7, -7, 9}, {-8, -8, 8}, {-9, 7, 7}, {-15, 1, 1}, {-16, 0, 0}, {-17, -1, 15}, {-24, -8, 8}, {-25, 7, 7},
		{255, -1, 15}, {256, 0, 0}, {-256, 0, 0}, {1 << 32, 0, 0}, {1<<32 - 1, -1, 15}, {-1<<32 - 1, -1, 15},
		{math.MaxInt, -1, 15}, {math.MaxInt - 7, -8, 8}, {math.MaxInt - 8, 7, 7}, {math.MinInt, 0, 0}, {math.MinInt + 7, 7, 7}, {math.MinInt + 8, -8, 8},
	} {
		if w := word.Wrap(x.n); w != x.word {
			t.Errorf("P4.1: Wrap(%d) is %d, want %d", x.n, w, x.word)
		}
		if b := word.Bits(x.n); b != x.bits {
			t.Errorf("P4.1: Bits(%d) is %d, want %d", x.n, b, x.bits)
		}
	}
	for _, w := range allWords() {
		if word.Wrap(w) != w {
			t.Errorf("P4.1: the word of the word %d is %d", w, word.Wrap(w))
		}
	}
}

// P4.1: integers of all sizes.
func TestWrapAndBits(t *testing.T) {
	var l []int
	for n := -70000; n <= 70000; n++ {
		l = append(l, n)
	}
	for _, n := range slices.Concat(l, edgeInts(), randomInts(20000)) {
		if w := word.Wrap(n); w != plainWord(n) {
			t.Errorf("P4.1: Wrap(%d) is %d, want %d", n, w, plainWord(n))
		}
		if b := word.Bits(n); b != plainBits(n) {
			t.Errorf("P4.1: Bits(%d) is %d, want %d", n, b, plainBits(n))
		}
	}
}

// P4.2: the operations, and what is none.
func TestTruth(t *testing.T) {
	for op, name := range names {
		want := slices.Contains([]string{"Less", "Same", "Both", "Some"}, name)
		if word.Truth(op) != want {
			t.Errorf("P4.2: Truth of %s is %v", name, !want)
		}
	}
	for _, op := range noOperations() {
		if word.Truth(op) {
			t.Errorf("P4.2: Truth(%d) is true", op)
		}
	}
}

// P4.2, P4.3: the result of an operation of which Truth is true is a truth value, and each other operation has results that are none.
func TestTruthOfResults(t *testing.T) {
	for op, name := range names {
		other := false
		pairs(func(a, b int) {
			if r, _ := word.Op(op, a, b); r != 0 && r != 1 {
				other = true
			}
		})
		if other == word.Truth(op) {
			t.Errorf("P4.2: Truth of %s is %v", name, word.Truth(op))
		}
	}
}

// P4.3: results that can be seen without a calculation.
func TestOpKnown(t *testing.T) {
	for _, x := range []struct{ op, a, b, want int }{
		{api.Add, 3, 4, 7}, {api.Add, 7, 1, -8}, {api.Add, 7, 7, -2}, {api.Add, -8, -8, 0}, {api.Add, -8, -1, 7},
		{api.Sub, 3, 4, -1}, {api.Sub, 4, 3, 1}, {api.Sub, -8, 1, 7}, {api.Sub, 7, -8, -1}, {api.Sub, 0, -8, -8},
		{api.Mul, 2, 3, 6}, {api.Mul, 2, 4, -8}, {api.Mul, 4, 4, 0}, {api.Mul, 7, 7, 1}, {api.Mul, -8, -8, 0}, {api.Mul, -8, -1, -8}, {api.Mul, -3, 5, 1},
		{api.Div, 7, 2, 3}, {api.Div, -7, 2, -3}, {api.Div, 7, -2, -3}, {api.Div, -7, -2, 3}, {api.Div, -8, -1, -8}, {api.Div, -8, 1, -8}, {api.Div, 1, -8, 0}, {api.Div, -8, 7, -1}, {api.Div, 0, 5, 0},
		{api.Mod, 7, 2, 1}, {api.Mod, -7, 2, -1}, {api.Mod, 7, -2, 1}, {api.Mod, -7, -2, -1}, {api.Mod, -8, -1, 0}, {api.Mod, 1, -8, 1}, {api.Mod, -8, 7, -1}, {api.Mod, 7, -8, 7}, {api.Mod, 0, 5, 0},
		{api.And, -1, 5, 5}, {api.And, 6, 3, 2}, {api.And, -8, 7, 0}, {api.And, -2, -3, -4}, {api.And, -8, -1, -8},
		{api.Or, 6, 3, 7}, {api.Or, -8, 7, -1}, {api.Or, -8, 3, -5}, {api.Or, 0, 0, 0},
		{api.Xor, 6, 3, 5}, {api.Xor, -1, 5, -6}, {api.Xor, -8, 7, -1}, {api.Xor, -3, -3, 0},
		{api.Shl, 1, 2, 4}, {api.Shl, 1, 3, -8}, {api.Shl, 3, 2, -4}, {api.Shl, -1, 3, -8}, {api.Shl, 5, 0, 5},
		{api.Shr, 7, 1, 3}, {api.Shr, 7, 3, 0}, {api.Shr, -8, 1, -4}, {api.Shr, -8, 3, -1}, {api.Shr, -7, 1, -4}, {api.Shr, -1, 3, -1}, {api.Shr, -5, 0, -5},
		{api.Less, 2, 3, 1}, {api.Less, 3, 2, 0}, {api.Less, 3, 3, 0}, {api.Less, -8, 7, 1}, {api.Less, 7, -8, 0}, {api.Less, -1, 0, 1},
		{api.Same, 3, 3, 1}, {api.Same, 3, -3, 0}, {api.Same, -8, -8, 1}, {api.Same, 0, -8, 0},
		{api.Both, 0, 0, 0}, {api.Both, 0, 1, 0}, {api.Both, 1, 0, 0}, {api.Both, 1, 1, 1},
		{api.Some, 0, 0, 0}, {api.Some, 0, 1, 1}, {api.Some, 1, 0, 1}, {api.Some, 1, 1, 1},
	} {
		expectOp(t, "P4.3", x.op, x.a, x.b, x.want, 0)
	}
}

// P4.3, P4.4: every pair of words with every operation.
func TestOpOfAllWords(t *testing.T) {
	for op := range names {
		pairs(func(a, b int) {
			want, code := plainOp(op, a, b)
			expectOp(t, "P4.3, P4.4", op, a, b, want, code)
		})
	}
}

// P4.3: shifts by counts whose bits are 4 or more, and by negative ones.
func TestShiftsByModulo(t *testing.T) {
	for _, x := range []struct{ op, a, b, want int }{
		{api.Shl, 1, 4, 1}, {api.Shl, 1, 5, 2}, {api.Shl, 1, 6, 4}, {api.Shl, 1, 7, -8}, {api.Shl, 1, -8, 1}, {api.Shl, 1, -7, 2}, {api.Shl, 1, -2, 4}, {api.Shl, 1, -1, -8}, {api.Shl, 3, 64, 3}, {api.Shl, 3, 65, 6},
		{api.Shr, -8, 4, -8}, {api.Shr, -8, 5, -4}, {api.Shr, -8, 6, -2}, {api.Shr, -8, 7, -1}, {api.Shr, -8, -8, -8}, {api.Shr, -8, -7, -4}, {api.Shr, -8, -2, -2}, {api.Shr, -8, -1, -1}, {api.Shr, 5, 64, 5}, {api.Shr, 5, 65, 2},
		{api.Shl, 1, math.MaxInt, -8}, {api.Shl, 1, math.MinInt, 1}, {api.Shr, 7, math.MaxInt, 0}, {api.Shr, 7, math.MinInt, 7},
	} {
		expectOp(t, "P4.3", x.op, x.a, x.b, x.want, 0)
	}
}

// P4.3: operands of Both and Some that are neither 0 nor 1 count as true, unless their word is 0.
func TestTruthValuesOfWords(t *testing.T) {
	for _, x := range []struct{ op, a, b, want int }{
		{api.Both, 2, 4, 1}, {api.Both, 1, 2, 1}, {api.Both, -8, 7, 1}, {api.Both, -1, -1, 1}, {api.Both, 0, -8, 0}, {api.Both, 5, 0, 0},
		{api.Both, 16, 1, 0}, {api.Both, 1, 16, 0}, {api.Both, 17, 33, 1}, {api.Both, math.MinInt, 1, 0}, {api.Both, math.MaxInt, 1, 1},
		{api.Some, 2, 4, 1}, {api.Some, -8, 0, 1}, {api.Some, 0, 6, 1}, {api.Some, 16, 0, 0}, {api.Some, 0, -16, 0}, {api.Some, 32, 48, 0}, {api.Some, 0, 18, 1},
		{api.Some, math.MinInt, math.MinInt, 0}, {api.Some, 0, math.MaxInt, 1},
	} {
		expectOp(t, "P4.3", x.op, x.a, x.b, x.want, 0)
	}
}

// P4.3, P4.4: integers that are no words, on either side or on both.
func TestOpOfAllIntegers(t *testing.T) {
	wordOf := map[int]int{}
	small, others := smallInts(), slices.Concat(edgeInts(), randomInts(300))
	for _, n := range slices.Concat(small, others) {
		wordOf[n] = plainWord(n)
	}
	check := func(op, a, b int) {
		want, code := plainOp(op, wordOf[a], wordOf[b])
		expectOp(t, "P4.3, P4.4", op, a, b, want, code)
	}
	for op := range names {
		for _, a := range small {
			for _, b := range small {
				check(op, a, b)
			}
		}
		for _, a := range others {
			for _, b := range allWords() {
				check(op, a, b)
				check(op, b, a)
			}
			for _, b := range edgeInts() {
				check(op, a, b)
			}
		}
	}
}

// P4.4: divisors whose word is 0, also those that are not 0 themselves.
func TestDivisionByZero(t *testing.T) {
	for _, b := range []int{0, 16, -16, 32, -32, 160, 1 << 8, 1 << 32, -1 << 32, 1 << 62, math.MinInt, math.MinInt + 16, math.MaxInt - 15} {
		for _, a := range slices.Concat(smallInts(), edgeInts()) {
			expectOp(t, "P4.4", api.Div, a, b, 0, api.ExZero)
			expectOp(t, "P4.4", api.Mod, a, b, 0, api.ExZero)
		}
	}
	for op := range names {
		if op == api.Div || op == api.Mod {
			continue
		}
		for _, a := range allWords() {
			if _, code := word.Op(op, a, 0); code != 0 {
				t.Errorf("P4.3: %s of %d and 0 has the code %d", names[op], a, code)
			}
		}
	}
}

// P4.4: what is no operation has the result 0, also with a divisor of 0.
func TestNoOperation(t *testing.T) {
	for _, op := range noOperations() {
		for _, x := range [][2]int{{0, 0}, {1, 1}, {7, 7}, {5, 2}, {-8, -1}, {3, 0}, {3, 16}, {math.MinInt, math.MinInt}, {math.MaxInt, math.MaxInt}} {
			expectOp(t, "P4.4", op, x[0], x[1], 0, 0)
		}
	}
	for _, op := range []int{-1, api.Bins, api.Bins + 1, math.MinInt, math.MaxInt} {
		pairs(func(a, b int) { expectOp(t, "P4.4", op, a, b, 0, 0) })
	}
}

// P4.5: Add and Mul over all words.
func TestRing(t *testing.T) {
	add := func(a, b int) int { return value(t, api.Add, a, b) }
	sub := func(a, b int) int { return value(t, api.Sub, a, b) }
	mul := func(a, b int) int { return value(t, api.Mul, a, b) }
	pairs(func(a, b int) {
		if add(a, b) != add(b, a) || mul(a, b) != mul(b, a) {
			t.Errorf("P4.5: %d and %d do not commute", a, b)
		}
		if sub(add(a, b), b) != a || add(sub(a, b), b) != a {
			t.Errorf("P4.5: Sub of %d does not undo Add to %d", b, a)
		}
		for _, c := range allWords() {
			if add(add(a, b), c) != add(a, add(b, c)) || mul(mul(a, b), c) != mul(a, mul(b, c)) {
				t.Errorf("P4.5: %d, %d and %d do not associate", a, b, c)
			}
			if mul(a, add(b, c)) != add(mul(a, b), mul(a, c)) || mul(add(a, b), c) != add(mul(a, c), mul(b, c)) {
				t.Errorf("P4.5: Mul does not distribute over Add: %d, %d, %d", a, b, c)
			}
		}
	})
}

// P4.6: Div and Mod over all words, of which the second one is not 0.
func TestDivision(t *testing.T) {
	abs := func(n int) int { return max(n, -n) }
	pairs(func(a, b int) {
		if b == 0 {
			return
		}
		div, mod := value(t, api.Div, a, b), value(t, api.Mod, a, b)
		if word.Wrap(b*div+mod) != a {
			t.Errorf("P4.6: %d is not %d times %d plus %d", a, b, div, mod)
		}
		if mod != 0 && (mod < 0) != (a < 0) {
			t.Errorf("P4.6: Mod(%d, %d) is %d, which has another sign", a, b, mod)
		}
		if abs(mod) >= abs(b) {
			t.Errorf("P4.6: Mod(%d, %d) is %d, which is too much", a, b, mod)
		}
	})
}

// P4.7: And, Or and Xor over all words.
func TestBitOperations(t *testing.T) {
	pairs(func(a, b int) {
		and, or, xor := value(t, api.And, a, b), value(t, api.Or, a, b), value(t, api.Xor, a, b)
		if xor != word.Wrap(or-and) {
			t.Errorf("P4.7: Xor(%d, %d) is not Or - And", a, b)
		}
		if value(t, api.Add, a, b) != word.Wrap(xor+2*and) {
			t.Errorf("P4.7: Add(%d, %d) is not Xor + 2 And", a, b)
		}
		if word.Wrap(-1-a) != value(t, api.Xor, a, -1) {
			t.Errorf("P4.7: Xor(%d, -1) is not -1 - %d", a, a)
		}
	})
}

// P4.8: Less and Same over all words.
func TestOrder(t *testing.T) {
	pairs(func(a, b int) {
		less, more, same := value(t, api.Less, a, b), value(t, api.Less, b, a), value(t, api.Same, a, b)
		ones := 0
		for _, r := range []int{less, more, same} {
			switch r {
			case 1:
				ones++
			case 0:
			default:
				t.Errorf("P4.8: %d is no truth value: %d, %d", r, a, b)
			}
		}
		if ones != 1 {
			t.Errorf("P4.8: Less, its converse and Same of %d and %d are %d, %d and %d", a, b, less, more, same)
		}
		if (less == 1) != (a-b < 0) {
			t.Errorf("P4.8: Less(%d, %d) is %d", a, b, less)
		}
	})
}

// P4.8: Shl and Shr over all words.
func TestShifts(t *testing.T) {
	pairs(func(a, b int) {
		p := power(b)
		shl := value(t, api.Shl, a, b)
		if shl != value(t, api.Mul, a, p) {
			t.Errorf("P4.8: Shl(%d, %d) is %d, not Mul(%d, %d)", a, b, shl, a, p)
		}
		if !slices.Contains(allWords(), a*p) {
			return
		}
		if back := value(t, api.Shr, shl, b); back != a {
			t.Errorf("P4.8: Shr(Shl(%d, %d), %d) is %d", a, b, b, back)
		}
	})
}

// P4.3, P4.4: the examples of the chapter.
func TestExamples(t *testing.T) {
	for _, x := range []struct{ op, a, b, want, code int }{
		{api.Add, 7, 1, -8, 0},
		{api.Div, -7, 2, -3, 0}, {api.Mod, -7, 2, -1, 0},
		{api.Div, -8, -1, -8, 0}, {api.Mod, -8, -1, 0, 0},
		{api.Div, 3, 0, 0, api.ExZero},
		{api.Shl, 1, 5, 2, 0}, {api.Shr, -8, 3, -1, 0},
		{api.And, -1, 5, 5, 0}, {api.Xor, -1, 5, -6, 0},
		{api.Less, 3, -4, 0, 0},
	} {
		expectOp(t, "examples", x.op, x.a, x.b, x.want, x.code)
	}
}

// P1: every function returns, whatever its arguments, and equal calls have equal results, whatever is called between them.
func TestEqualCalls(t *testing.T) {
	type call struct{ op, a, b int }
	type result struct {
		truth                 bool
		wrap, bits, out, code int
	}
	do := func(c call) result {
		r := result{truth: word.Truth(c.op), wrap: word.Wrap(c.a), bits: word.Bits(c.b)}
		r.out, r.code = word.Op(c.op, c.a, c.b)
		return r
	}
	some := []int{math.MinInt, math.MinInt + 1, -17, -16, -8, -1, 0, 1, 7, 8, 15, 16, math.MaxInt - 1, math.MaxInt}
	var calls []call
	for _, op := range append([]int{math.MinInt, -1, api.Bins, math.MaxInt}, api.Add, api.Sub, api.Mul, api.Div, api.Mod, api.And, api.Or, api.Xor, api.Shl, api.Shr, api.Less, api.Same, api.Both, api.Some) {
		for _, a := range some {
			for _, b := range some {
				calls = append(calls, call{op, a, b})
			}
		}
	}
	first := map[call]result{}
	for _, c := range calls {
		first[c] = do(c)
	}
	r := rand.New(rand.NewSource(1))
	for range 3 * len(calls) {
		c := calls[r.Intn(len(calls))]
		if again := do(c); again != first[c] {
			t.Fatalf("P1: %v has the results %v and %v", c, first[c], again)
		}
	}
}
