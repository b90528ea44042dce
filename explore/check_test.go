package explore_test

import (
	"math/rand"
	"slices"
	"testing"

	"scoria/api"
	"scoria/explore"
)

// expectCheck checks a graph.
func expectCheck(t *testing.T, c api.Code, args []int, g explore.Graph, want api.Errno, name string) {
	t.Helper()
	if e := explore.Check(c, args, g); e != want {
		t.Fatalf("P12.2: %s: the error %d and not %d for\n%v\nand %v, %v", name, e, want, g, c, args)
	}
}

// shuffled is a random order of the states of a graph, in which the first one is the first.
func shuffled(r *rand.Rand, n int) []int {
	order := []int{0}
	for _, i := range r.Perm(n - 1) {
		order = append(order, i+1)
	}
	return order
}

// P12.2, P12.8: all that All returns is accepted, with its states after the first one in any order; not with another one first.
func TestAccepted(t *testing.T) {
	r := rand.New(rand.NewSource(122))
	several := 0
	for _, c := range someCodes(t, r, 250) {
		args := anyArgs(r, c)
		g, e := explore.All(c, args, 100)
		if e != api.OK {
			continue
		}
		expectCheck(t, c, args, g, api.OK, "what All returns")
		expectCheck(t, c, args, cloned(g), api.OK, "nil lists")
		n := len(g.States)
		for range 3 {
			order := shuffled(r, n)
			expectCheck(t, c, args, rearranged(g, order), api.OK, "another order")
			if n > 1 {
				several++
				i := 1 + r.Intn(n-1)
				order[0], order[i] = order[i], order[0]
				expectCheck(t, c, args, rearranged(g, order), api.ErrCheck, "another first state")
			}
		}
	}
	if several < 1000 {
		t.Errorf("only %d graphs with several states", several)
	}
}

// P12.2: all orders of the states of a few graphs, with the edges in the order of these, and not.
func TestAllOrders(t *testing.T) {
	for _, x := range scenes(t) {
		if len(x.states) > 7 {
			continue
		}
		g := explored(t, x.code, x.args, 7)
		permutations(len(g.States), func(order []int) {
			h := rearranged(g, order)
			expectCheck(t, x.code, x.args, h, api.OK, x.name)
			// the same edges, but in the order that they had before
			for _, edge := range g.Edges {
				i := slices.IndexFunc(h.Edges, func(y explore.Edge) bool { return y.From == slices.Index(order, edge.From) && y.Proc == edge.Proc })
				h.Edges = append(h.Edges, h.Edges[i])
			}
			h.Edges = h.Edges[len(g.Edges):]
			want := api.ErrCheck
			if identical(h, rearranged(g, order)) {
				want = api.OK
			}
			expectCheck(t, x.code, x.args, h, want, x.name+", edges as before")
		})
	}
}

// changesOfEvents has lists of events that differ a little from one.
func changesOfEvents(l []api.Event) [][]api.Event {
	all := [][]api.Event{append(slices.Clone(l), api.Event{}), append(slices.Clone(l), api.Event{Proc: 1, Kind: api.EvEnd, N: 2})}
	for i := range l {
		all = append(all, slices.Delete(slices.Clone(l), i, i+1), slices.Insert(slices.Clone(l), i, l[i]))
		for _, by := range []int{-1, 1, 16} {
			for field := range 3 {
				m := slices.Clone(l)
				*[]*int{&m[i].Proc, &m[i].Kind, &m[i].N}[field] += by
				all = append(all, m)
			}
		}
	}
	return all
}

// changesOfStates has states that differ a little from one.
func changesOfStates(s api.State) []api.State {
	var all []api.State
	change := func(f func(x *api.State)) {
		x := clonedState(s)
		f(&x)
		all = append(all, x)
	}
	change(func(x *api.State) { x.Steps = 1 })
	change(func(x *api.State) { x.Steps = -1 })
	change(func(x *api.State) { x.Procs = append(x.Procs, api.Proc{}) })
	change(func(x *api.State) { x.Chans = append(x.Chans, nil) })
	for i, p := range s.Procs {
		change(func(x *api.State) { x.Procs = slices.Delete(x.Procs, i, i+1) })
		change(func(x *api.State) { x.Procs[i].Frames = append(x.Procs[i].Frames, api.Frame{}) })
		for j, f := range p.Frames {
			change(func(x *api.State) { x.Procs[i].Frames = slices.Delete(x.Procs[i].Frames, j, j+1) })
			change(func(x *api.State) { x.Procs[i].Frames[j].Fun++ })
			change(func(x *api.State) { x.Procs[i].Frames[j].At-- })
			change(func(x *api.State) { x.Procs[i].Frames[j].Words = append(f.Words, 0) })
			change(func(x *api.State) { x.Procs[i].Frames[j].Stack = append(f.Stack, 0) })
			change(func(x *api.State) { x.Procs[i].Frames[j].Tries = append(f.Tries, api.Try{}) })
			for k := range f.Words {
				change(func(x *api.State) { x.Procs[i].Frames[j].Words[k] += 16 })
			}
			for k := range f.Stack {
				change(func(x *api.State) { x.Procs[i].Frames[j].Stack[k]-- })
			}
			for k := range f.Tries {
				change(func(x *api.State) { x.Procs[i].Frames[j].Tries[k].At++ })
				change(func(x *api.State) { x.Procs[i].Frames[j].Tries[k].Word++ })
				change(func(x *api.State) { x.Procs[i].Frames[j].Tries[k].Height++ })
			}
		}
	}
	for i, words := range s.Chans {
		change(func(x *api.State) { x.Chans = slices.Delete(x.Chans, i, i+1) })
		change(func(x *api.State) { x.Chans[i] = append(x.Chans[i], 0) })
		for k := range words {
			change(func(x *api.State) { x.Chans[i][k]++ })
		}
	}
	return all
}

// changes has graphs that differ a little from one.
func changes(g explore.Graph) map[string][]explore.Graph {
	all := map[string][]explore.Graph{}
	change := func(name string, f func(x *explore.Graph)) {
		x := cloned(g)
		f(&x)
		all[name] = append(all[name], x)
	}
	for _, l := range changesOfEvents(g.First) {
		change("First", func(x *explore.Graph) { x.First = l })
	}
	for i, end := range g.Ends {
		for _, other := range []int{-2, -1, 0, 1, 2, 3} {
			if other != end {
				change("an end", func(x *explore.Graph) { x.Ends[i] = other })
			}
		}
		change("an end left out", func(x *explore.Graph) { x.Ends = slices.Delete(x.Ends, i, i+1) })
		change("an end twice", func(x *explore.Graph) { x.Ends = slices.Insert(x.Ends, i, end) })
	}
	for i, s := range g.States {
		for _, other := range changesOfStates(s) {
			change("a state", func(x *explore.Graph) { x.States[i] = other })
		}
		change("a state left out", func(x *explore.Graph) { x.States = slices.Delete(x.States, i, i+1) })
		change("a state and its end left out", func(x *explore.Graph) {
			x.States, x.Ends = slices.Delete(x.States, i, i+1), slices.Delete(x.Ends, i, i+1)
		})
		change("a state twice", func(x *explore.Graph) { x.States = append(x.States, clonedState(s)) })
		change("a state and its end twice", func(x *explore.Graph) {
			x.States, x.Ends = append(x.States, clonedState(s)), append(x.Ends, x.Ends[i])
		})
		for j := range i {
			change("a state in the place of another one", func(x *explore.Graph) { x.States[j] = clonedState(s) })
			change("two states exchanged", func(x *explore.Graph) { x.States[i], x.States[j] = x.States[j], x.States[i] })
		}
	}
	change("a state more", func(x *explore.Graph) {
		x.States, x.Ends = append(x.States, api.State{}), append(x.Ends, 0)
	})
	for i, edge := range g.Edges {
		for _, l := range changesOfEvents(edge.Events) {
			change("an event", func(x *explore.Graph) { x.Edges[i].Events = l })
		}
		for _, n := range []int{-1 << 63, -1, 0, 1, 2, 3, len(g.States) - 1, len(g.States), 1 << 62} {
			if n != edge.From {
				change("From", func(x *explore.Graph) { x.Edges[i].From = n })
			}
			if n != edge.To {
				change("To", func(x *explore.Graph) { x.Edges[i].To = n })
			}
			if n != edge.Proc {
				change("Proc", func(x *explore.Graph) { x.Edges[i].Proc = n })
			}
		}
		change("an edge left out", func(x *explore.Graph) { x.Edges = slices.Delete(x.Edges, i, i+1) })
		change("an edge twice", func(x *explore.Graph) { x.Edges = slices.Insert(x.Edges, i, x.Edges[i]) })
		change("an edge again at the end", func(x *explore.Graph) { x.Edges = append(x.Edges, x.Edges[i]) })
		for j := range i {
			change("two edges exchanged", func(x *explore.Graph) { x.Edges[i], x.Edges[j] = x.Edges[j], x.Edges[i] })
		}
	}
	change("an edge more", func(x *explore.Graph) { x.Edges = append(x.Edges, explore.Edge{}) })
	change("no edges", func(x *explore.Graph) { x.Edges = nil })
	change("no states", func(x *explore.Graph) { x.States = nil })
	change("no ends", func(x *explore.Graph) { x.Ends = nil })
	change("the zero graph", func(x *explore.Graph) { *x = explore.Graph{} })
	return all
}

// P12.2, P12.8: graphs in which something is changed, left out, added or twice.
func TestChanges(t *testing.T) {
	r := rand.New(rand.NewSource(128))
	var codes []api.Code
	for _, x := range scenes(t) {
		if x.args == nil {
			codes = append(codes, x.code)
		}
	}
	codes = append(codes, someCodes(t, r, 25)...)
	kinds := map[string]int{}
	for _, c := range codes {
		args := anyArgs(r, c)
		g, e := explore.All(c, args, 15)
		if e != api.OK {
			continue
		}
		g = rearranged(g, shuffled(r, len(g.States)))
		for name, l := range changes(g) {
			for _, x := range l {
				if !identical(x, g) {
					expectCheck(t, c, args, x, api.ErrCheck, name)
					kinds[name]++
				}
			}
		}
	}
	for _, name := range []string{
		"First", "an end", "an end left out", "an end twice", "a state", "a state left out", "a state and its end left out", "a state twice", "a state and its end twice",
		"a state in the place of another one", "two states exchanged", "a state more", "an event", "From", "To", "Proc", "an edge left out", "an edge twice",
		"an edge again at the end", "two edges exchanged", "an edge more", "no edges", "no states", "no ends", "the zero graph",
	} {
		if kinds[name] < 20 {
			t.Errorf("P12.2: only %d times: %s", kinds[name], name)
		}
	}
}

// P12.2: all changes of graphs with few states, compared with the right graph in all orders.
func TestChangesOfFewStates(t *testing.T) {
	for _, x := range scenes(t) {
		if len(x.states) > 4 {
			continue
		}
		g := explored(t, x.code, x.args, 4)
		for name, l := range changes(g) {
			for _, h := range l {
				want := plainCheck(x.code, x.args, h)
				if want == api.OK && !identical(g, h) {
					t.Errorf("P12.2: %s, %s: another graph is right, too", x.name, name)
				}
				expectCheck(t, x.code, x.args, h, want, x.name+", "+name)
			}
		}
	}
}

// P12.2: a graph with states that no way reaches, of which all else is right.
func TestStatesThatAreNotReached(t *testing.T) {
	// process 0 with the argument 0 never comes to the code for other arguments
	c := codeOf(t, 0, "1 1: load 0, false 5, push 1, out, jump 7, push 2, out, push 0, return")
	zero, one := explored(t, c, []int{0}, 9), explored(t, c, []int{1}, 9)
	joined := explore.Graph{States: slices.Concat(zero.States, one.States), Ends: slices.Concat(zero.Ends, one.Ends), Edges: slices.Clone(zero.Edges)}
	for _, x := range one.Edges {
		x.From += len(zero.States)
		x.To += len(zero.States)
		joined.Edges = append(joined.Edges, x)
	}
	expectCheck(t, c, []int{0}, zero, api.OK, "the graph for 0")
	expectCheck(t, c, []int{1}, one, api.OK, "the graph for 1")
	expectCheck(t, c, []int{1}, zero, api.ErrCheck, "the graph for other arguments")
	expectCheck(t, c, []int{0}, joined, api.ErrCheck, "both graphs")
	// the last states are equal in words, so that they are one
	last := slices.Concat(zero.States, one.States[:len(one.States)-1])
	expectCheck(t, c, []int{0}, explore.Graph{States: last, Ends: joined.Ends[:len(last)], Edges: joined.Edges[:len(last)-1]}, api.ErrCheck, "both graphs without the last state")
}

// P12.2: graphs of other code, and code without a graph.
func TestOtherCode(t *testing.T) {
	all := scenes(t)
	for _, x := range all {
		for _, y := range all {
			g := explored(t, y.code, y.args, 1024)
			want := api.ErrCheck
			if h := explored(t, x.code, x.args, 1024); identical(g, h) {
				want = api.OK
			}
			expectCheck(t, x.code, x.args, g, want, x.name+", and the graph of: "+y.name)
		}
	}
	loop := codeOf(t, 0, "0 0: jump 0")
	expectCheck(t, loop, nil, explore.Graph{}, api.ErrFuel, "code that never comes to a visible instruction")
	expectCheck(t, loop, nil, explored(t, both(t), nil, 10), api.ErrFuel, "code that never comes to a visible instruction")
	// a turn without an end: no graph is one of this code
	c := codeOf(t, 0, "0 0: push 1, out, jump 2")
	s := explored(t, codeOf(t, 0, "0 0: push 1, out, push 0, return"), nil, 3).States[0]
	for _, g := range []explore.Graph{
		{},
		{States: []api.State{s}, Ends: []int{-1}},
		{States: []api.State{s}, Ends: []int{-1}, Edges: []explore.Edge{{Events: []api.Event{{N: 1}}}}},
		{States: []api.State{s, {}}, Ends: []int{-1, -1}, Edges: []explore.Edge{{To: 1, Events: []api.Event{{N: 1}}}}},
		{States: []api.State{s, {}}, Ends: []int{-1, api.EndFuel}, Edges: []explore.Edge{{To: 1, Events: []api.Event{{N: 1}}}}},
	} {
		expectCheck(t, c, nil, g, api.ErrCheck, "a turn without an end")
	}
	// more states than All returns
	many, e := plainGraph(shows(t, 1023), nil, 2000)
	if e != api.OK || len(many.States) != 1025 {
		t.Fatalf("P12.1: the error %d, and %d states", e, len(many.States))
	}
	expectCheck(t, shows(t, 1023), nil, many, api.ErrCheck, "1025 states")
	expectCheck(t, shows(t, 1022), nil, many, api.ErrCheck, "1025 states for code with 1024")
	few := explored(t, shows(t, 1022), nil, 1024)
	expectCheck(t, shows(t, 1022), nil, rearranged(few, shuffled(rand.New(rand.NewSource(5)), 1024)), api.OK, "1024 states")
	expectCheck(t, shows(t, 1021), nil, few, api.ErrCheck, "1024 states for code with 1023")
}

// P12.2: graphs of any numbers.
func TestAnyGraphs(t *testing.T) {
	big := []int{-1 << 63, -1, 1 << 62, 1<<63 - 1}
	var frames []api.Frame
	for _, n := range big {
		frames = append(frames, api.Frame{Fun: n, At: n, Words: big, Stack: big, Tries: []api.Try{{At: n, Word: n, Height: n}}})
	}
	s := api.State{Procs: []api.Proc{{Frames: frames}, {}}, Chans: [][]int{big, nil}, Steps: -1}
	event := api.Event{Proc: -1, Kind: 1 << 62, N: -1 << 63}
	for _, n := range append(big, 0, 1) {
		g := explore.Graph{States: []api.State{s, {}, s}, Ends: []int{n, n, n}, First: []api.Event{event}, Edges: []explore.Edge{{From: n, Proc: n, To: n, Events: []api.Event{event}}}}
		for _, x := range scenes(t) {
			expectCheck(t, x.code, x.args, g, api.ErrCheck, x.name)
			g.States[0] = explored(t, x.code, x.args, 1024).States[0]
			expectCheck(t, x.code, x.args, g, api.ErrCheck, x.name)
		}
	}
}
