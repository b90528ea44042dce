package explore_test

import (
	"math/rand"
	"slices"
	"testing"

	"scoria/api"
	"scoria/explore"
	"scoria/run"
)

// anySched is a schedule; many of its elements are processes.
func anySched(r *rand.Rand) []int {
	var l []int
	for range []int{0, r.Intn(10), r.Intn(50), r.Intn(300)}[r.Intn(4)] {
		n := r.Intn(4)
		if r.Intn(20) == 0 {
			n = r.Intn(100) - 50
		}
		l = append(l, n)
	}
	return l
}

// follow follows the edges of a graph with a schedule. It returns where they lead, and their events; false, if there is no such way.
func follow(g explore.Graph, sched []int) (int, []api.Event, bool) {
	state, events := 0, slices.Clone(g.First)
	for _, proc := range sched {
		i := slices.IndexFunc(g.Edges, func(x explore.Edge) bool { return x.From == state && x.Proc == proc })
		if i < 0 {
			return 0, nil, false
		}
		state, events = g.Edges[i].To, append(events, g.Edges[i].Events...)
	}
	return state, events, true
}

// ends reports whether no edge of a graph begins in a state.
func ends(g explore.Graph, state int) bool {
	return !slices.ContainsFunc(g.Edges, func(x explore.Edge) bool { return x.From == state })
}

// ranOut reports whether a run has no outcome because of its fuel, or of the number of its turns.
func ranOut(t *testing.T, r api.Run) bool {
	t.Helper()
	if r.Out.End == api.EndFuel && r.Steps < 4096 && len(r.Sched) < 256 {
		t.Fatalf("P11.1: the run %v", r)
	}
	return r.Out.End == api.EndFuel
}

// P12.5: runs follow maximal ways, and have outcomes of the graph.
func TestEverySchedule(t *testing.T) {
	r := rand.New(rand.NewSource(125))
	clear(seen)
	for _, c := range someCodes(t, r, 500) {
		args := anyArgs(r, c)
		g, e := explore.All(c, args, 200)
		if e != api.OK {
			continue
		}
		l, e := explore.Outcomes(g, 1024)
		count(e == api.ErrLimit, "endless, or too many outcomes")
		endless := plainEndless(g)
		runs := 5
		if endless {
			runs = 30
		}
		for range runs {
			x, wrong := run.Run(c, args, anySched(r), 4096)
			if wrong != api.OK {
				t.Fatalf("P11.1: the error %d", wrong)
			}
			state, events, ok := follow(g, x.Sched)
			if ranOut(t, x) {
				count(true, "fuel or turns used up")
				continue
			}
			if !ok || !ends(g, state) || g.Ends[state] != x.Out.End || !slices.Equal(events, x.Out.Events) {
				t.Fatalf("P12.5: the run %v follows no maximal way of %v, for %v", x, g, c)
			}
			count(len(x.Sched) > 8, "long ways")
			if e == api.OK && !slices.ContainsFunc(l, func(o api.Outcome) bool { return run.Same(o, x.Out) }) {
				t.Fatalf("P12.5: the outcome %v is none of %v, for %v", x.Out, l, c)
			}
			count(e == api.OK && len(l) > 1, "one of several outcomes")
			count(endless, "a way that ends, of an endless graph")
		}
	}
	expectSeen(t, 50, "fuel or turns used up", "endless, or too many outcomes")
	expectSeen(t, 200, "long ways", "one of several outcomes")
	expectSeen(t, 20, "a way that ends, of an endless graph")
}

// P12.6: each outcome has a witness, with which a run has it.
func TestWitnesses(t *testing.T) {
	r := rand.New(rand.NewSource(126))
	clear(seen)
	for _, c := range someCodes(t, r, 400) {
		args := anyArgs(r, c)
		g, e := explore.All(c, args, 100)
		if e != api.OK {
			continue
		}
		l, e := explore.Outcomes(g, 50)
		if e != api.OK {
			continue
		}
		for _, o := range l {
			sched, e := explore.Witness(c, args, o, 100)
			if e != api.OK {
				t.Fatalf("P12.6: the error %d for the outcome %v of %v", e, o, c)
			}
			x, e := run.Run(c, args, sched, 4096)
			if e != api.OK {
				t.Fatalf("P11.1: the error %d", e)
			}
			if ranOut(t, x) {
				continue
			}
			if !run.Same(x.Out, o) || !slices.Equal(x.Sched, sched) {
				t.Fatalf("P12.6: the run %v with the witness %v of %v, for %v", x, sched, o, c)
			}
			count(len(l) > 1, "one of several outcomes")
			count(len(sched) > 8, "long schedules")
			count(o.End == api.EndStuck, "stuck")
		}
		count(len(l) > 0, "outcomes")
	}
	expectSeen(t, 200, "one of several outcomes", "long schedules", "stuck", "outcomes")
}

// P12.7: one process has one way, and one outcome, unless it never ends.
func TestSequential(t *testing.T) {
	r := rand.New(rand.NewSource(127))
	clear(seen)
	for _, c := range someCodes(t, r, 1000) {
		args := anyArgs(r, c)
		g, e := explore.All(c, args, 300)
		if e != api.OK || slices.ContainsFunc(g.States, func(s api.State) bool { return len(s.Procs) > 1 }) {
			continue
		}
		for i := range g.States {
			n := 0
			for _, x := range g.Edges {
				if x.From == i {
					n++
				}
				if x.Proc != 0 {
					t.Fatalf("P12.7: a turn of process %d of one: %v", x.Proc, c)
				}
			}
			if n > 1 {
				t.Fatalf("P12.7: %d edges begin in the state %d for %v", n, i, c)
			}
		}
		if plainEndless(g) {
			count(true, "endless")
			expectOutcomes(t, "one process for ever", g, 1024, api.ErrLimit)
			continue
		}
		ways, few := plainWays(g, 1)
		l, e := explore.Outcomes(g, 1)
		if !few || len(ways) != 1 || e != api.OK || len(l) != 1 || !run.Same(l[0], ways[0].out) {
			t.Fatalf("P12.7: the error %d, %d ways and %v for %v", e, len(ways), l, c)
		}
		expectWitness(t, "one process", c, args, l[0], 300, slices.Repeat([]int{0}, len(g.States)-1), api.OK)
		count(len(g.States) > 5, "several turns")
		count(g.Ends[len(g.Ends)-1] == api.EndStuck, "stuck")
	}
	expectSeen(t, 20, "endless")
	expectSeen(t, 50, "several turns", "stuck")
}

// P12.1, P12.8: in a graph that All returns, the states are different, all of them are reached, and each turn of each state has one edge, in order.
func TestShapeOfGraphs(t *testing.T) {
	r := rand.New(rand.NewSource(1280))
	for _, c := range someCodes(t, r, 300) {
		g, e := explore.All(c, anyArgs(r, c), 200)
		if e != api.OK {
			continue
		}
		if len(g.Ends) != len(g.States) {
			t.Fatalf("P12.1: %d ends of %d states", len(g.Ends), len(g.States))
		}
		keys := map[string]bool{}
		for _, s := range g.States {
			keys[key(s)] = true
		}
		reached := map[int]bool{0: true}
		for i, x := range g.Edges {
			reached[x.To] = true
			if i > 0 && (g.Edges[i-1].From > x.From || g.Edges[i-1].From == x.From && g.Edges[i-1].Proc >= x.Proc) {
				t.Fatalf("P12.1: the edges %v", g.Edges)
			}
		}
		if len(keys) != len(g.States) || len(reached) != len(g.States) {
			t.Fatalf("P12.1: of %d states %d are different, and %d are reached", len(g.States), len(keys), len(reached))
		}
		for i := range g.States {
			if ends(g, i) != (g.Ends[i] >= 0) {
				t.Fatalf("P12.1: the end %d of the state %d of %v", g.Ends[i], i, g)
			}
		}
	}
}
