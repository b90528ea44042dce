package reads_test

import (
	"math"
	"math/rand"
	"slices"
	"testing"

	"scoria/reads"
)

// P13.3: reads written by hand.
func TestJoin(t *testing.T) {
	for _, x := range []struct {
		name string
		a, b [][]int
		want string
		funs int
	}{
		{"both zero", nil, nil, "", 0},
		{"no functions", [][]int{}, nil, "", 0},
		{"zero and an empty function", nil, [][]int{{}}, "", 1},
		{"two empty functions", [][]int{nil}, [][]int{{}}, "", 1},
		{"different numbers of empty functions", [][]int{nil, {}, nil}, [][]int{{}}, " |  | ", 3},
		{"zero and indices", nil, [][]int{{1, 2}, {0}}, "1 2 | 0", 2},
		{"indices and zero", [][]int{{1, 2}, {0}}, nil, "1 2 | 0", 2},
		{"the first one longer", [][]int{{1, 3}, {5}, {7}}, [][]int{{2}}, "1 2 3 | 5 | 7", 3},
		{"the second one longer", [][]int{{2}}, [][]int{{1, 3}, {}, {7}}, "1 2 3 |  | 7", 3},
		{"the same indices", [][]int{{1, 2, 3}}, [][]int{{1, 2, 3}}, "1 2 3", 1},
		{"some of the same indices", [][]int{{0, 1, 3}}, [][]int{{1, 2, 3, 4}}, "0 1 2 3 4", 1},
		{"one behind the other", [][]int{{5, 6}}, [][]int{{1, 2}}, "1 2 5 6", 1},
		{"an index in different functions", [][]int{{4}, nil}, [][]int{nil, {4}}, "4 | 4", 2},
		{"not in order", [][]int{{5, 1, 3}}, [][]int{{4, 2}}, "1 2 3 4 5", 1},
		{"not in order in one of them", [][]int{{9, 0}}, nil, "0 9", 1},
		{"not in order in the other one", nil, [][]int{{9, 0}}, "0 9", 1},
		{"twice in one of them", [][]int{{2, 2, 2}}, [][]int{nil}, "2", 1},
		{"twice in the other one", nil, [][]int{{7, 2, 7}}, "2 7", 1},
		{"twice in both", [][]int{{3, 1, 3}}, [][]int{{1, 3, 1}}, "1 3", 1},
		{"negative", [][]int{{0, -1}}, [][]int{{-8, -1}}, "-8 -1 0", 1},
		{"very large and very small", [][]int{{math.MaxInt, 0}}, [][]int{{math.MinInt, math.MaxInt}}, "-9223372036854775808 0 9223372036854775807", 1},
	} {
		got := reads.Join(reads.Reads{Funs: x.a}, reads.Reads{Funs: x.b})
		if told(got) != x.want || len(got.Funs) != x.funs {
			t.Errorf("P13.3: %s: %q with %d functions instead of %q with %d", x.name, told(got), len(got.Funs), x.want, x.funs)
		}
	}
}

// P13.3: any two of the reads that have up to two functions with up to two indices out of three, in any order.
func TestJoinAll(t *testing.T) {
	lists := [][]int{nil}
	for i := -1; i <= 1; i++ {
		lists = append(lists, []int{i})
		for j := -1; j <= 1; j++ {
			lists = append(lists, []int{i, j})
		}
	}
	every := []reads.Reads{{}}
	for _, l := range lists {
		every = append(every, reads.Reads{Funs: [][]int{l}})
		for _, m := range lists {
			every = append(every, reads.Reads{Funs: [][]int{l, m}})
		}
	}
	for _, a := range every {
		for _, b := range every {
			if got, want := reads.Join(a, b), plainJoin(a, b); !equal(got, want) {
				t.Fatalf("P13.3: %v instead of %v for %v and %v", got, want, a, b)
			}
		}
	}
}

// P13.3: any reads.
func TestJoinPlain(t *testing.T) {
	r := rand.New(rand.NewSource(134))
	for range 5000 {
		a, b := anyReads(r), anyReads(r)
		if got, want := reads.Join(a, b), plainJoin(a, b); !equal(got, want) {
			t.Fatalf("P13.3: %v instead of %v for %v and %v", got, want, a, b)
		}
	}
	var long reads.Reads
	for i := range 7 {
		l := r.Perm(3000)
		long.Funs = append(long.Funs, append(l, l[:100*i]...))
	}
	for f, l := range reads.Join(long, reads.Reads{Funs: [][]int{{-1}}}).Funs {
		first := 0
		if f == 0 {
			first = -1
		}
		if len(l) != 3000-first || l[0] != first || !slices.IsSorted(l) {
			t.Errorf("P13.3: the function %d has %d indices", f, len(l))
		}
	}
}
