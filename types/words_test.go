package types_test

import (
	"math"
	"slices"
	"testing"

	"scoria/api"
	"scoria/types"
)

// expectWords expects how many words the values of a type have.
func expectWords(t *testing.T, n api.Node, want int) {
	t.Helper()
	if got := types.Words(n); got != want {
		t.Errorf("P7.3: %d instead of %d for %v", got, want, n)
	}
}

// numbersAround are numbers inside and outside of all bounds; also such whose low bits are inside.
func numbersAround() []int {
	l := []int{math.MinInt, math.MinInt + 1, math.MaxInt, -1 << 32, api.AnyN}
	for n := -9; n <= 9; n++ {
		l = append(l, n, n+1<<8, n+1<<16, n+1<<32)
	}
	return l
}

// P7.3: the types.
func TestWords(t *testing.T) {
	expectWords(t, word, 1)
	expectWords(t, truth, 1)
	for n := 1; n <= 4; n++ {
		expectWords(t, node(api.KArr, n), n)
	}
	l := [][]api.Node{nil}
	for i := 0; i < len(l); i++ {
		if len(l[i]) < 5 {
			l = append(l, slices.Concat(l[i], []api.Node{word}), slices.Concat(l[i], []api.Node{truth}))
		}
	}
	for _, fields := range l {
		want := len(fields)
		if want == 0 || want > 3 {
			want = -1
		}
		expectWords(t, node(api.KRec, 0, fields...), want)
		expectWords(t, api.Node{Kind: api.KRec, Kids: slices.Clone(fields)}, want)
	}
	expectWords(t, api.Node{Kind: api.KInt, Kids: []api.Node{}}, 1)
	expectWords(t, api.Node{Kind: api.KArr, N: 2, Kids: []api.Node{}}, 2)
	expectWords(t, node(api.KRec, 0, api.Node{Kind: api.KBool, Kids: []api.Node{}}), 1)
}

// P7.3: N and M of types, and of the fields of records.
func TestWordsNumbers(t *testing.T) {
	for _, n := range numbersAround() {
		zero := func(m int) int {
			if n == 0 {
				return m
			}
			return -1
		}
		length := -1
		if n >= 1 && n <= 4 {
			length = n
		}
		expectWords(t, node(api.KInt, n), zero(1))
		expectWords(t, node(api.KBool, n), zero(1))
		expectWords(t, node(api.KArr, n), length)
		expectWords(t, node(api.KRec, n, word, truth), zero(2))
		expectWords(t, field(api.KInt, 0, n), zero(1))
		expectWords(t, field(api.KBool, 0, n), zero(1))
		expectWords(t, field(api.KArr, 3, n), zero(3))
		expectWords(t, field(api.KRec, 0, n, word, truth, truth), zero(3))
		for i := range 3 {
			for _, kind := range []int{api.KInt, api.KBool} {
				for _, x := range []api.Node{node(kind, n), field(kind, 0, n)} {
					fields := []api.Node{word, truth, word}
					fields[i] = x
					expectWords(t, node(api.KRec, 0, fields...), zero(3))
					expectWords(t, node(api.KRec, 0, fields[i]), zero(1))
				}
			}
		}
	}
}

// P7.3: kids too many, too few or wrong.
func TestWordsKids(t *testing.T) {
	for _, kid := range append(someTypes(), num, empty, api.Node{}, node(-1, 0), node(api.Kinds, 0), scene(t, "skip")) {
		expectWords(t, node(api.KInt, 0, kid), -1)
		expectWords(t, node(api.KBool, 0, kid), -1)
		for n := 0; n <= 5; n++ {
			expectWords(t, node(api.KArr, n, kid), -1)
		}
		right := 3
		if len(kid.Kids) > 0 || kid.Kind != api.KInt && kid.Kind != api.KBool {
			right = -1
		}
		expectWords(t, node(api.KRec, 0, kid, word, word), right)
		expectWords(t, node(api.KRec, 0, word, kid, truth), right)
		expectWords(t, node(api.KRec, 0, truth, word, kid), right)
		expectWords(t, node(api.KRec, 0, word, truth, word, kid), -1)
		for _, below := range []api.Node{word, truth, kid} {
			expectWords(t, node(api.KRec, 0, node(api.KInt, 0, below)), -1)
			expectWords(t, node(api.KRec, 0, word, node(api.KBool, 0, below)), -1)
		}
	}
}

// P7.3: trees that are no types.
func TestWordsOthers(t *testing.T) {
	kinds := slices.DeleteFunc(numbersAround(), func(kind int) bool { return kind >= api.KInt && kind <= api.KRec })
	for kind := api.KNum; kind <= api.Kinds; kind++ {
		kinds = append(kinds, kind)
	}
	for _, kind := range kinds {
		for n := range 5 {
			expectWords(t, node(kind, n), -1)
			expectWords(t, node(kind, n, word), -1)
			expectWords(t, node(kind, n, word, truth), -1)
			expectWords(t, node(api.KRec, 0, node(kind, n)), -1)
		}
	}
	expectWords(t, scene(t, "skip"), -1)
	expectWords(t, chain(1<<16, word), -1)
	record := word
	for range 1 << 16 {
		record = node(api.KRec, 0, record)
	}
	expectWords(t, record, -1)
}
