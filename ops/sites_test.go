package ops_test

import (
	"cmp"
	"math/rand"
	"slices"
	"testing"

	"scoria/api"
	"scoria/ops"
)

// site is a site with a path.
func site(op int, path ...int) api.Site { return api.Site{Path: path, Op: op} }

// P14.4: sites written by hand.
func TestSitesCases(t *testing.T) {
	std := ops.Standard()
	add := bin(api.Add, v(0), num(1))
	up, down := rule(num(1), num(2)), rule(num(2), num(1))
	bad := api.Op{Name: "BAD", Find: num(1), Put: num(2), Back: -1}
	for _, x := range []struct {
		what string
		n    api.Node
		l    []api.Op
		want []api.Site
	}{
		{"no operators", add, nil, nil},
		{"no operators", add, []api.Op{}, nil},
		{"a root alone", num(1), []api.Op{up}, []api.Site{site(0)}},
		{"a root alone, of another number", num(3), []api.Op{up}, nil},
		{"the second operator", num(2), []api.Op{up, down}, []api.Site{site(1)}},
		{"no node", block(num(3), not(v(1))), []api.Op{up, down}, nil},
		{"kids", block(num(1), num(3), num(2)), []api.Op{up, down}, []api.Site{site(0, 0), site(1, 2)}},
		{"several levels", block(not(num(1)), num(2), not(not(num(1)))), []api.Op{up, down}, []api.Site{site(0, 0, 0), site(1, 1), site(0, 2, 0, 0)}},
		{"a node above another one", not(not(a)), []api.Op{rule(not(hole(0)), hole(0))}, []api.Site{site(0), site(0, 0)}},
		{"a node that is the same afterwards", not(not(v(1))), []api.Op{rule(not(hole(0)), not(v(1)))}, []api.Site{site(0)}},
		{"several operators at one node", num(1), []api.Op{up, rule(num(1), v(1)), down, rule(num(1), num(3))}, []api.Site{site(0), site(1), site(3)}},
		{"several operators at nodes above each other", not(num(1)), []api.Op{up, rule(not(hole(0)), hole(0)), up}, []api.Site{site(1), site(0, 0), site(2, 0)}},
		{"the same operator twice", block(num(1), num(1)), []api.Op{up, up}, []api.Site{site(0, 0), site(1, 0), site(0, 1), site(1, 1)}},
		{"an operator that is not valid", block(num(1)), []api.Op{bad}, nil},
		{"operators that are not valid among others", block(num(1), num(2)), []api.Op{bad, up, bad, down, bad}, []api.Site{site(1, 0), site(3, 1)}},
		{"an operator that changes nothing", block(num(1)), []api.Op{rule(num(1), num(1))}, nil},
		{"a part of a program", block(node(api.KSet, 1, bin(api.Sub, v(0), num(1))), node(api.KOut, 0, num(0))), std, []api.Site{site(1, 0, 0), site(9, 0, 0), site(13, 0, 0, 1), site(20, 1), site(12, 1, 0)}},
		{"an expression", add, std, []api.Site{site(0), site(13, 1)}},
		{"no program at all", node(-5, 0, hole(0), node(api.KNum, 0, num(1)), num(0)), std, []api.Site{site(13, 1, 0), site(12, 2)}},
		{"the example of the chapter on mutants", bin(api.Add, num(1), num(1)), std, []api.Site{site(0), site(13, 0), site(13, 1)}},
		{"a tree with KAny", not(hole(0)), []api.Op{rule(not(hole(0)), hole(0))}, []api.Site{site(0)}},
		{"the zero node", zero, std, nil},
		{"more than ten kids", block(slices.Repeat([]api.Node{num(1)}, 12)...), []api.Op{up}, []api.Site{site(0, 0), site(0, 1), site(0, 2), site(0, 3), site(0, 4), site(0, 5), site(0, 6), site(0, 7), site(0, 8), site(0, 9), site(0, 10), site(0, 11)}},
	} {
		expectSites(t, x.n, x.l, x.want, x.what)
	}
}

// P14.4: a program, with all of its sites.
func TestSitesProgram(t *testing.T) {
	p := parse(`program 1
fun 1 (int, arr 2, bool) {
  while !(v0 < 1) { v1[0] = v1[(v0 + 1)] out (v0 - v0) }
  if !v2 { out (v0 - 1) } else { }
  if true { skip } else { skip }
  v2 = ((v0 == 0) && false)
  return (v1[0] * (v0 << (0 | 2)))
}`)
	expectSites(t, p, ops.Standard(), []api.Site{
		site(21, 0, 3, 0),
		site(2, 0, 3, 0, 0, 0), site(13, 0, 3, 0, 0, 0, 1),
		site(12, 0, 3, 0, 1, 0, 0),
		site(22, 0, 3, 0, 1, 0, 1), site(23, 0, 3, 0, 1, 0, 1), site(0, 0, 3, 0, 1, 0, 1, 0), site(13, 0, 3, 0, 1, 0, 1, 0, 1),
		site(20, 0, 3, 0, 1, 1), site(1, 0, 3, 0, 1, 1, 0),
		site(6, 0, 3, 1), site(7, 0, 3, 1), site(8, 0, 3, 1),
		site(20, 0, 3, 1, 1, 0), site(1, 0, 3, 1, 1, 0, 0), site(9, 0, 3, 1, 1, 0, 0), site(13, 0, 3, 1, 1, 0, 0, 1),
		site(6, 0, 3, 2), site(11, 0, 3, 2, 0),
		site(4, 0, 3, 3, 0), site(3, 0, 3, 3, 0, 0), site(12, 0, 3, 3, 0, 0, 1), site(10, 0, 3, 3, 0, 1),
		site(14, 0, 3, 4, 0), site(22, 0, 3, 4, 0, 0), site(12, 0, 3, 4, 0, 0, 0), site(18, 0, 3, 4, 0, 1), site(17, 0, 3, 4, 0, 1, 1), site(12, 0, 3, 4, 0, 1, 1, 0),
	}, "a program")
}

// P14.4: 0 to 30 operators.
func TestSitesCounts(t *testing.T) {
	n := block(num(1))
	for count := range 31 {
		var want []api.Site
		for i := range count {
			if count <= 24 {
				want = append(want, site(i, 0))
			}
		}
		up := rule(num(1), num(2))
		expectSites(t, n, slices.Repeat([]api.Op{up}, count), want, "so many operators")
		bad := slices.Repeat([]api.Op{{Name: "BAD"}}, count)
		expectSites(t, n, bad, nil, "so many operators that are not valid")
		if count > 0 {
			want = want[:min(1, len(want))]
			expectSites(t, n, append([]api.Op{up}, bad[1:]...), want, "so many operators, of which one is valid")
		}
	}
}

// P14.4: random programs, parts of them and other trees, with random operators.
func TestSitesRandom(t *testing.T) {
	r := rand.New(rand.NewSource(144))
	found := 0
	for range 600 {
		p := anyProgram(r)
		for _, n := range []api.Node{p, p.Kids[0], anyTree(r, 4)} {
			l := someOps(r)
			want := plainSites(n, l)
			found += len(want)
			expectSites(t, n, l, want, "random")
		}
		expectSites(t, p, ops.Standard(), plainSites(p, ops.Standard()), "the standard operators")
	}
	if found < 2000 {
		t.Errorf("only %d sites", found)
	}
	for range 500 {
		n := anyNumbers(r, 4)
		l := append(someOps(r), rule(node(0, -100), num(1)), rule(node(1, 7), num(1)))
		expectSites(t, n, l, plainSites(n, l), "any numbers")
	}
}

// P1: the sites of trees of 65536 levels, and of many nodes.
func TestSitesLarge(t *testing.T) {
	deep := chain(1<<16, num(1))
	if l := ops.Sites(deep, ops.Standard()); len(l) != 1 || l[0].Op != 13 || len(l[0].Path) != 1<<16-1 || slices.Max(l[0].Path) != 0 {
		t.Errorf("P14.4: %d sites of a deep tree", len(l))
	}
	wide := block(slices.Repeat([]api.Node{num(1)}, 1<<16)...)
	l := ops.Sites(wide, ops.Standard())
	for i, s := range l {
		if !sameSite(s, site(13, i)) {
			t.Fatalf("P14.4: the site %d of a wide tree is %v", i, s)
		}
	}
	if len(l) != 1<<16 {
		t.Errorf("P14.4: %d sites of a wide tree", len(l))
	}
}

// sorted are sites, each before the next one.
var sorted = []api.Site{
	site(-1 << 63), site(-1), site(0), site(1), site(1<<63 - 1),
	site(5, -1<<63), site(5, -1<<63, 0), site(0, -2), site(0, -1), site(3, -1), site(0, -1, -1), site(0, -1, 0),
	site(-1, 0), site(0, 0), site(2, 0), site(9, 0, -1), site(0, 0, 0), site(1, 0, 0), site(0, 0, 0, 0), site(5, 0, 0, 0), site(0, 0, 0, 1), site(0, 0, 1), site(0, 0, 1, 0), site(0, 0, 10), site(7, 0, 1<<62),
	site(0, 1), site(1, 1), site(23, 1), site(0, 1, 0), site(0, 1, 5), site(0, 2), site(0, 2, 0, 0, 0, 0), site(0, 3), site(0, 10), site(0, 1<<63-1), site(1, 1<<63-1), site(-1, 1<<63-1, -1),
}

// expectOrder expects the order of two sites, both ways, of the function and of its plain version.
func expectOrder(t *testing.T, a, b api.Site, want int) {
	t.Helper()
	if plainCompare(a, b) != want {
		t.Fatalf("the plain version does not say %d for %v and %v", want, a, b)
	}
	if ops.Compare(a, b) != want || ops.Compare(b, a) != -want {
		t.Errorf("P14.5: Compare returns %d and %d instead of %d and %d for %v and %v", ops.Compare(a, b), ops.Compare(b, a), want, -want, a, b)
	}
}

// P14.5: all pairs of sites of a list in increasing order.
func TestCompareSorted(t *testing.T) {
	for i, a := range sorted {
		for k, b := range sorted {
			expectOrder(t, a, b, cmp.Compare(i, k))
			expectOrder(t, a, api.Site{Path: slices.Clone(b.Path), Op: b.Op}, cmp.Compare(i, k))
		}
	}
	expectOrder(t, api.Site{}, api.Site{Path: []int{}}, 0)
	expectOrder(t, api.Site{Path: []int{}, Op: 1}, api.Site{}, 1)
}

// P14.5: all pairs of small sites, and random ones.
func TestCompareRandom(t *testing.T) {
	r := rand.New(rand.NewSource(145))
	l := []api.Site{site(0), site(1)}
	for depth := 0; depth < len(l); depth++ {
		if s := l[depth]; len(s.Path) < 3 {
			for i := range 3 {
				l = append(l, api.Site{Path: append(slices.Clone(s.Path), i-1), Op: s.Op})
			}
		}
	}
	for range 100 {
		s := site(edgeNumbers[r.Intn(len(edgeNumbers))])
		for range r.Intn(4) {
			s.Path = append(s.Path, edgeNumbers[r.Intn(len(edgeNumbers))])
		}
		l = append(l, s)
	}
	for _, a := range l {
		for _, b := range l {
			expectOrder(t, a, b, plainCompare(a, b))
		}
	}
}
