package explore_test

import (
	"math/rand"
	"slices"
	"testing"

	"scoria/api"
	"scoria/explore"
)

// ev is an event that shows a number.
func ev(n int) api.Event { return api.Event{N: n} }

// evs is events that show numbers.
func evs(l ...int) []api.Event {
	var events []api.Event
	for _, n := range l {
		events = append(events, ev(n))
	}
	return events
}

// raw is a graph with ends and edges, and states that do not matter.
func raw(ends []int, edges ...explore.Edge) explore.Graph {
	return explore.Graph{States: make([]api.State, len(ends)), Ends: ends, Edges: edges}
}

// to is an edge with the process 0, with events that show numbers.
func to(from, to int, numbers ...int) explore.Edge {
	return explore.Edge{From: from, To: to, Events: evs(numbers...)}
}

// expectOutcomes compares the outcomes of a graph with what they have to be.
func expectOutcomes(t *testing.T, name string, g explore.Graph, most int, wrong api.Errno, want ...string) {
	t.Helper()
	l, e := explore.Outcomes(g, most)
	if e != wrong || !slices.Equal(outcomesTold(l), want) {
		t.Errorf("P12.3: %s: the error %d and %q, and not %d and %q", name, e, outcomesTold(l), wrong, want)
	}
}

// P12.3: graphs of which the outcomes were written by hand.
func TestOutcomesByHand(t *testing.T) {
	expectOutcomes(t, "one state", raw([]int{api.EndStuck}), 1, api.OK, "; 1")
	expectOutcomes(t, "an end that is none", raw([]int{-1}), 1, api.OK, "; -1")
	first := raw([]int{3}, nil...)
	first.First = []api.Event{ev(4), {Proc: 1, Kind: api.EvFault, N: 2}}
	expectOutcomes(t, "first events", first, 1, api.OK, "0 out 4, 1 fault 2; 3")
	first = raw([]int{1, 0}, to(0, 1, 5))
	first.First = evs(7)
	expectOutcomes(t, "first events and others", first, 1, api.OK, "0 out 7, 0 out 5; 0")
	expectOutcomes(t, "the same outcome by several edges", raw([]int{-1, 0}, to(0, 1, 2), to(0, 1, 2)), 1, api.OK, "0 out 2; 0")
	expectOutcomes(t, "the same outcome by several states", raw([]int{-1, 0, 0}, to(0, 1, 2), to(0, 2, 2)), 1, api.OK, "0 out 2; 0")
	expectOutcomes(t, "the same events and several ends", raw([]int{-1, 1, 0, -5, 1}, to(0, 1, 2), to(0, 2, 2), to(0, 3, 2), to(0, 4, 2)), 3, api.OK, "0 out 2; -5", "0 out 2; 0", "0 out 2; 1")
	expectOutcomes(t, "as many outcomes as most, and one more", raw([]int{-1, 1, 0, -5}, to(0, 1, 2), to(0, 2, 2), to(0, 3, 2)), 2, api.ErrLimit)
	expectOutcomes(t, "other orders of the edges", raw([]int{-1, -1, 0}, to(1, 2, 3), to(0, 2, 9), to(0, 1, 1), to(1, 2, 2)), 3, api.OK, "0 out 1, 0 out 2; 0", "0 out 1, 0 out 3; 0", "0 out 9; 0")
	expectOutcomes(t, "events that end in the middle of an edge", raw([]int{-1, 0, 0, 1}, to(0, 1, 1, 2), to(0, 2, 1), to(2, 3, 2), to(0, 3)), 9, api.OK, "; 1", "0 out 1, 0 out 2; 0", "0 out 1, 0 out 2; 1")
	expectOutcomes(t, "beginnings", raw([]int{-1, 2, 1, 0}, to(0, 1, 1, 1, 1), to(0, 2, 1), to(0, 3, 1, 1)), 9, api.OK, "0 out 1; 1", "0 out 1, 0 out 1; 0", "0 out 1, 0 out 1, 0 out 1; 2")
	expectOutcomes(t, "ends of states with edges do not matter", raw([]int{0, 0, 1}, to(0, 1), to(1, 2)), 9, api.OK, "; 1")
	expectOutcomes(t, "states that no way reaches", raw([]int{-1, 0, 1, 1}, to(0, 1, 1), to(2, 3, 5), to(2, 1, 6)), 1, api.OK, "0 out 1; 0")
	order := raw([]int{-1, 0})
	for _, x := range []api.Event{{Proc: 1}, {Kind: 1}, {N: 1}, {N: -1}, {Kind: 1, N: -8}, {Proc: 1, Kind: 2, N: 7}, {Kind: 2}, {}} {
		order.Edges = append(order.Edges, explore.Edge{To: 1, Events: []api.Event{x}})
	}
	expectOutcomes(t, "the order of events", order, 8, api.OK, "0 out -1; 0", "0 out 0; 0", "0 out 1; 0", "0 end -8; 0", "0 end 0; 0", "0 fault 0; 0", "1 out 0; 0", "1 fault 7; 0")
}

// P12.3: what is no graph, and numbers that most cannot be.
func TestOutcomesOfNoGraphs(t *testing.T) {
	good := raw([]int{-1, 0}, to(0, 1, 1))
	endless := raw([]int{-1}, to(0, 0))
	for _, most := range []int{-1 << 63, -1, 0, 1025, 1 << 62} {
		expectOutcomes(t, "most", good, most, api.ErrArg)
		expectOutcomes(t, "most, endless", endless, most, api.ErrArg)
	}
	for _, most := range []int{1, 2, 1023, 1024} {
		expectOutcomes(t, "most", good, most, api.OK, "0 out 1; 0")
		expectOutcomes(t, "most, endless", endless, most, api.ErrLimit)
	}
	expectOutcomes(t, "the zero graph", explore.Graph{}, 1, api.ErrArg)
	expectOutcomes(t, "no states", explore.Graph{Ends: []int{0}, First: evs(1)}, 1, api.ErrArg)
	expectOutcomes(t, "no states and no ends", explore.Graph{Edges: []explore.Edge{to(0, 0)}}, 1, api.ErrArg)
	for _, ends := range [][]int{nil, {0}, {0, 0, 0}} {
		x := good
		x.Ends = ends
		expectOutcomes(t, "another number of ends", x, 1, api.ErrArg)
		x.Edges = endless.Edges
		expectOutcomes(t, "another number of ends, endless", x, 1, api.ErrArg)
	}
	for _, n := range []int{-1 << 63, -1, 2, 1 << 62} {
		for _, bad := range []explore.Edge{to(n, 1), to(1, n), to(n, n), to(0, n), to(n, 0)} {
			expectOutcomes(t, "an index that no state has", raw([]int{-1, 0}, to(0, 1, 1), bad), 1, api.ErrArg)
			expectOutcomes(t, "an index that no state has", raw([]int{-1, 0}, bad, to(0, 1, 1)), 1, api.ErrArg)
			expectOutcomes(t, "an index that no state has, endless", raw([]int{-1, 0}, to(0, 0), bad), 1, api.ErrArg)
		}
	}
}

// P12.3: endless graphs, and circles that no way reaches.
func TestEndlessGraphs(t *testing.T) {
	for name, g := range map[string]explore.Graph{
		"one state":               raw([]int{0}, to(0, 0)),
		"a way beside the circle": raw([]int{0, 0}, to(0, 1, 1), to(0, 0, 2)),
		"two states":              raw([]int{0, 0}, to(0, 1), to(1, 0)),
		"a circle later":          raw([]int{0, 0, 0, 0}, to(0, 1), to(1, 2), to(2, 3), to(3, 2), to(0, 3)),
		"a last state":            raw([]int{0, 0, 0}, to(0, 1), to(1, 1), to(1, 2)),
		"back to the first state": raw([]int{0, 0, 0}, to(0, 1), to(1, 2), to(2, 0, 1)),
		"two circles":             raw([]int{0, 0, 0, 0, 0}, to(0, 1), to(1, 2), to(2, 1), to(3, 4), to(4, 3)),
	} {
		for _, most := range []int{1, 1024} {
			expectOutcomes(t, name, g, most, api.ErrLimit)
		}
	}
	for name, g := range map[string]explore.Graph{
		"one state":             raw([]int{0, 0}, to(1, 1)),
		"two states":            raw([]int{0, 0, 0}, to(1, 2), to(2, 1)),
		"that lead to a way":    raw([]int{-1, 0, 0, 0}, to(0, 1, 0), to(2, 3), to(3, 2), to(2, 0), to(3, 1)),
		"that lead to the last": raw([]int{-1, 0, 0}, to(2, 2), to(2, 1), to(0, 1, 0)),
	} {
		want := "; 0"
		if len(g.Edges) > 2 {
			want = "0 out 0; 0"
		}
		expectOutcomes(t, "a circle that no way reaches: "+name, g, 1, api.OK, want)
	}
}

// P12.3: as many outcomes as there may be, and one more, by few and by many ways.
func TestManyOutcomes(t *testing.T) {
	for _, n := range []int{1, 2, 1023, 1024, 1025} {
		fan := raw([]int{-1, 0})
		for i := range n {
			fan.Edges = append(fan.Edges, to(0, 1, n-i))
		}
		ends := raw(make([]int, n+1))
		for i := range n {
			ends.Ends[i+1] = n - i
			ends.Edges = append(ends.Edges, to(0, i+1))
		}
		for _, most := range []int{1, 2, 1022, 1023, 1024} {
			for name, g := range map[string]explore.Graph{"events": fan, "ends": ends} {
				l, e := explore.Outcomes(g, most)
				if n > most {
					if e != api.ErrLimit || len(l) > 0 {
						t.Errorf("P12.3: %s: the error %d for %d outcomes and most %d", name, e, n, most)
					}
				} else if e != api.OK || len(l) != n || !slices.IsSortedFunc(l, func(a, b api.Outcome) int {
					if len(a.Events) > 0 {
						return a.Events[0].N - b.Events[0].N
					}
					return a.End - b.End
				}) {
					t.Errorf("P12.3: %s: the error %d and %d outcomes for %d outcomes and most %d", name, e, len(l), n, most)
				}
			}
		}
	}
	// two edges at each of ten steps
	steps := raw(make([]int, 11))
	for i := range 10 {
		steps.Edges = append(steps.Edges, to(i, i+1, 1), to(i, i+1, 0))
	}
	l, e := explore.Outcomes(steps, 1024)
	if e != api.OK || len(l) != 1024 {
		t.Fatalf("P12.3: the error %d and %d outcomes", e, len(l))
	}
	for i, o := range l {
		n := 0
		for _, x := range o.Events {
			n = 2*n + x.N
		}
		if n != i || len(o.Events) != 10 {
			t.Errorf("P12.3: the outcome %d is %v", i, o)
		}
	}
	expectOutcomes(t, "1024 outcomes", steps, 1023, api.ErrLimit)
}

// P12.3, P1: more ways than can be followed one by one, but few outcomes, or far too many.
func TestManyWays(t *testing.T) {
	n := 1024
	empty, equal, other, loose := raw(make([]int, n)), raw(make([]int, n)), raw(make([]int, n)), raw(make([]int, n))
	for i := range n - 1 {
		empty.Edges = append(empty.Edges, to(i, i+1), to(i, min(n-1, i+2)))
		equal.Edges = append(equal.Edges, to(i, i+1, 1), to(i, i+1, 1))
		other.Edges = append(other.Edges, to(i, i+1, 1), to(i, i+1, 2))
		loose.Edges = append(loose.Edges, to(i, i+1, 1), to(i, i+1))
	}
	expectOutcomes(t, "no events", empty, 1, api.OK, "; 0")
	l, e := explore.Outcomes(equal, 1)
	if e != api.OK || len(l) != 1 || !slices.Equal(l[0].Events, evs(slices.Repeat([]int{1}, n-1)...)) {
		t.Errorf("P12.3: the error %d and %d outcomes for equal events", e, len(l))
	}
	expectOutcomes(t, "events that differ", other, 1024, api.ErrLimit)
	// from 0 to 1023 events
	l, e = explore.Outcomes(loose, 1024)
	if e != api.OK || len(l) != 1024 {
		t.Fatalf("P12.3: the error %d and %d outcomes for edges with and without events", e, len(l))
	}
	for i, o := range l {
		if !slices.Equal(o.Events, evs(slices.Repeat([]int{1}, i)...)) {
			t.Errorf("P12.3: the outcome %d has %d events", i, len(o.Events))
		}
	}
	expectOutcomes(t, "1024 outcomes", loose, 1023, api.ErrLimit)
}

// anyGraph is a graph of anything; most of its edges lead to later states.
func anyGraph(r *rand.Rand) explore.Graph {
	n := 1 + r.Intn(7)
	g := raw(make([]int, n))
	kinds := 1 + r.Intn(3)
	for i := range n {
		g.Ends[i] = r.Intn(kinds) - r.Intn(2)
	}
	events := func() []api.Event {
		var l []api.Event
		for range r.Intn(4) * r.Intn(2) {
			l = append(l, api.Event{Proc: r.Intn(kinds), Kind: r.Intn(kinds), N: r.Intn(kinds) - 1})
		}
		return l
	}
	g.First = events()
	for range r.Intn(4 * n) {
		x := explore.Edge{From: r.Intn(n), Proc: r.Intn(4), To: r.Intn(n), Events: events()}
		if x.From >= x.To && r.Intn(40) > 0 {
			x.From, x.To = x.To, x.From
			if x.From == x.To {
				continue
			}
		}
		g.Edges = append(g.Edges, x)
	}
	return g
}

// P12.3: random graphs.
func TestAnyOutcomes(t *testing.T) {
	r := rand.New(rand.NewSource(123))
	clear(seen)
	for range 20000 {
		expectPlainOutcomes(t, anyGraph(r))
	}
	expectSeen(t, 1000, "endless", "several outcomes", "an outcome by several ways")
}

// P12.3: all graphs of three states with up to three edges.
func TestAllSmallGraphs(t *testing.T) {
	var all []explore.Edge
	for i := range 9 {
		for _, numbers := range [][]int{nil, {1}, {1, 1}} {
			all = append(all, to(i/3, i%3, numbers...))
		}
	}
	for _, x := range all {
		expectPlainOutcomes(t, raw([]int{1, 0, 2}, x))
		for _, y := range all {
			expectPlainOutcomes(t, raw([]int{1, 0, 2}, x, y))
			for _, z := range all {
				expectPlainOutcomes(t, raw([]int{1, 0, 0}, x, y, z))
			}
		}
	}
}

// P12.3: graphs of codes.
func TestOutcomesOfCodes(t *testing.T) {
	r := rand.New(rand.NewSource(1230))
	clear(seen)
	for _, c := range someCodes(t, r, 700) {
		g, e := explore.All(c, anyArgs(r, c), 60)
		if e == api.OK {
			_, tried := expectPlainOutcomes(t, g)
			count(tried && len(g.States) > 10, "more than ten states")
		}
	}
	expectSeen(t, 50, "endless", "several outcomes", "an outcome by several ways", "more than ten states")
}

// P12.3: the example of the chapter as a program: six outcomes, all orders in which each process shows its number before it ends.
func TestExample(t *testing.T) {
	c := made(t, "program 0 fun 0 () { spawn f1() out 1 return 0 } fun 0 () { out 2 return 0 }")
	g := explored(t, c, nil, 10)
	expectOutcomes(t, "the example", g, 6, api.OK,
		"0 out 1, 0 end 0, 1 out 2, 1 end 0; 0", "0 out 1, 1 out 2, 0 end 0, 1 end 0; 0", "0 out 1, 1 out 2, 1 end 0, 0 end 0; 0",
		"1 out 2, 0 out 1, 0 end 0, 1 end 0; 0", "1 out 2, 0 out 1, 1 end 0, 0 end 0; 0", "1 out 2, 1 end 0, 0 out 1, 0 end 0; 0")
	expectOutcomes(t, "the example", g, 5, api.ErrLimit)
}
