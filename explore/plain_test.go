package explore_test

import (
	"fmt"
	"reflect"
	"slices"
	"testing"

	"scoria/api"
	"scoria/explore"
	"scoria/run"
	"scoria/vm"
)

// seen counts what happened.
var seen = map[string]int{}

// count counts something that is so.
func count(so bool, name string) {
	if so {
		seen[name]++
	}
}

// expectSeen says which things happened less often than least.
func expectSeen(t *testing.T, least int, names ...string) {
	t.Helper()
	for _, name := range names {
		if seen[name] < least {
			t.Errorf("only %d times: %s", seen[name], name)
		}
	}
}

// key is a state in words, without its Steps: equal exactly for states that are equal.
func key(s api.State) string {
	s.Steps = 0
	return fmt.Sprintf("%v", s)
}

// plainAll is what All has to return.
func plainAll(c api.Code, args []int, most int) (explore.Graph, api.Errno) {
	if most <= 0 || most >= 1025 {
		return explore.Graph{}, api.ErrArg
	}
	return plainGraph(c, args, most)
}

// plainGraph is the graph of code with up to most states, also with more than All may return.
func plainGraph(c api.Code, args []int, most int) (explore.Graph, api.Errno) {
	s, events, e := vm.New(c, args, 4096)
	if e != api.OK {
		return explore.Graph{}, e
	}
	s.Steps = 0
	g := explore.Graph{States: []api.State{s}, First: events}
	at := map[string]int{key(s): 0}
	for i := 0; i < len(g.States); i++ {
		ready := vm.Ready(c, g.States[i])
		end := -1
		if len(ready) == 0 {
			end = vm.Ended(c, g.States[i])
		}
		g.Ends = append(g.Ends, end)
		for _, proc := range ready {
			s, events, e := vm.Turn(c, g.States[i], proc, 4096)
			if e != api.OK {
				return explore.Graph{}, e
			}
			to, old := at[key(s)]
			if !old {
				if len(g.States) == most {
					return explore.Graph{}, api.ErrLimit
				}
				to = len(g.States)
				at[key(s)] = to
				s.Steps = 0
				g.States = append(g.States, s)
			}
			count(old, "joined")
			g.Edges = append(g.Edges, explore.Edge{From: i, Proc: proc, To: to, Events: events})
		}
	}
	return g, api.OK
}

// identical reports whether two graphs are equal in all fields; nil and empty lists are the same.
func identical(a, b explore.Graph) bool {
	return fmt.Sprintf("%v", a) == fmt.Sprintf("%v", b)
}

// expectPlainAll compares All with what it has to return.
func expectPlainAll(t *testing.T, c api.Code, args []int, most int) (explore.Graph, api.Errno) {
	t.Helper()
	want, wrong := plainAll(c, args, most)
	got, e := explore.All(c, args, most)
	if e != wrong || !identical(got, want) {
		t.Fatalf("P12.1: the error %d and the graph\n%v\nand not %d and\n%v\nfor %v, the arguments %v and most %d", e, got, wrong, want, c, args, most)
	}
	return got, e
}

// rearranged is a graph whose states have another order: the state i of it is the state order[i] of g.
func rearranged(g explore.Graph, order []int) explore.Graph {
	h := explore.Graph{First: g.First}
	at := make([]int, len(order))
	for i, old := range order {
		at[old] = i
		h.States = append(h.States, g.States[old])
		h.Ends = append(h.Ends, g.Ends[old])
	}
	for _, old := range order {
		for _, x := range g.Edges {
			if x.From == old {
				h.Edges = append(h.Edges, explore.Edge{From: at[x.From], Proc: x.Proc, To: at[x.To], Events: x.Events})
			}
		}
	}
	return h
}

// permutations calls f with all orders of the numbers from 0 to n - 1 that begin with 0.
func permutations(n int, f func(order []int)) {
	order := []int{0}
	var visit func()
	visit = func() {
		if len(order) == n {
			f(order)
		}
		for i := range n {
			if !slices.Contains(order, i) {
				order = append(order, i)
				visit()
				order = order[:len(order)-1]
			}
		}
	}
	visit()
}

// plainCheck is what Check has to return, for graphs with few states.
func plainCheck(c api.Code, args []int, g explore.Graph) api.Errno {
	if _, _, e := vm.New(c, args, 4096); e != api.OK {
		return e
	}
	right, e := plainAll(c, args, 1024)
	result := api.ErrCheck
	if e != api.OK || len(right.States) != len(g.States) {
		return result
	}
	permutations(len(right.States), func(order []int) {
		if identical(rearranged(right, order), g) {
			result = api.OK
		}
	})
	return result
}

// way is a maximal way.
type way struct {
	sched []int
	out   api.Outcome
}

// plainEndless reports whether a graph is endless.
func plainEndless(g explore.Graph) bool {
	leads := make([][]bool, len(g.States))
	for i := range leads {
		leads[i] = make([]bool, len(g.States))
	}
	for _, x := range g.Edges {
		leads[x.From][x.To] = true
	}
	for k := range leads {
		for i := range leads {
			for j := range leads {
				leads[i][j] = leads[i][j] || leads[i][k] && leads[k][j]
			}
		}
	}
	for i := range leads {
		if leads[i][i] && (i == 0 || leads[0][i]) {
			return true
		}
	}
	return false
}

// plainWays has all maximal ways of a graph that is not endless; false, if there are more than most.
func plainWays(g explore.Graph, most int) ([]way, bool) {
	var l []way
	var visit func(state int, sched []int, events []api.Event)
	visit = func(state int, sched []int, events []api.Event) {
		maximal := true
		for _, x := range g.Edges {
			if x.From == state && len(l) <= most {
				maximal = false
				visit(x.To, append(slices.Clone(sched), x.Proc), append(slices.Clone(events), x.Events...))
			}
		}
		if maximal {
			l = append(l, way{sched: sched, out: api.Outcome{Events: events, End: g.Ends[state]}})
		}
	}
	visit(0, nil, g.First)
	return l, len(l) <= most
}

// plainOutcomes is what Outcomes has to return for a graph with the maximal ways.
func plainOutcomes(ways []way, most int) ([]api.Outcome, api.Errno) {
	var l []api.Outcome
	for _, w := range ways {
		if !slices.ContainsFunc(l, func(o api.Outcome) bool { return run.Same(o, w.out) }) {
			l = append(l, w.out)
		}
	}
	if len(l) > most {
		return nil, api.ErrLimit
	}
	slices.SortFunc(l, run.Compare)
	return l, api.OK
}

// sameOutcomes reports whether two lists of outcomes are equal.
func sameOutcomes(a, b []api.Outcome) bool {
	return slices.EqualFunc(a, b, func(x, y api.Outcome) bool {
		return x.End == y.End && slices.Equal(x.Events, y.Events)
	})
}

// tooMany is more ways than are tried.
const tooMany = 3000

// expectPlainOutcomes compares Outcomes with what it has to return, with the numbers as most around that of the outcomes, and returns them. It reports whether there are any, and not too many ways to be tried.
func expectPlainOutcomes(t *testing.T, g explore.Graph) ([]api.Outcome, bool) {
	t.Helper()
	if plainEndless(g) {
		count(true, "endless")
		for _, most := range []int{1, 2, 1024} {
			if l, e := explore.Outcomes(g, most); e != api.ErrLimit || len(l) > 0 {
				t.Fatalf("P12.3: the error %d and %v for most %d and the endless graph\n%v", e, l, most, g)
			}
		}
		return nil, false
	}
	ways, few := plainWays(g, tooMany)
	if !few {
		count(true, "too many ways to be tried")
		return nil, false
	}
	all, _ := plainOutcomes(ways, tooMany)
	count(len(all) < len(ways), "an outcome by several ways")
	count(len(all) > 1, "several outcomes")
	for _, most := range []int{1, 2, len(all) - 1, len(all), len(all) + 1, 1024} {
		if most < 1 || most > 1024 {
			continue
		}
		want, wrong := plainOutcomes(ways, most)
		got, e := explore.Outcomes(g, most)
		if e != wrong || !sameOutcomes(got, want) {
			t.Fatalf("P12.3: the error %d and\n%v\nand not %d and\n%v\nfor most %d and the graph\n%v", e, got, wrong, want, most, g)
		}
	}
	return all, true
}

// plainWitness is what Witness has to return for a graph with the maximal ways.
func plainWitness(ways []way, o api.Outcome) ([]int, api.Errno) {
	var l [][]int
	for _, w := range ways {
		if run.Same(w.out, o) {
			l = append(l, w.sched)
		}
	}
	if len(l) == 0 {
		return nil, api.ErrNone
	}
	slices.SortFunc(l, slices.Compare[[]int])
	return l[0], api.OK
}

// cloned is g without any of its memory.
func cloned(g explore.Graph) explore.Graph {
	h := explore.Graph{Ends: slices.Clone(g.Ends), First: slices.Clone(g.First)}
	for _, x := range g.Edges {
		x.Events = slices.Clone(x.Events)
		h.Edges = append(h.Edges, x)
	}
	for _, s := range g.States {
		h.States = append(h.States, clonedState(s))
	}
	return h
}

// clonedState is s without any of its memory.
func clonedState(s api.State) api.State {
	r := api.State{Steps: s.Steps}
	for _, p := range s.Procs {
		var q api.Proc
		for _, f := range p.Frames {
			q.Frames = append(q.Frames, api.Frame{Fun: f.Fun, At: f.At, Words: slices.Clone(f.Words), Stack: slices.Clone(f.Stack), Tries: slices.Clone(f.Tries)})
		}
		r.Procs = append(r.Procs, q)
	}
	for _, words := range s.Chans {
		r.Chans = append(r.Chans, slices.Clone(words))
	}
	return r
}

// untouched reports whether a graph is still as it was, also in what lies in the room behind its lists.
func untouched(g, before explore.Graph) bool {
	return reflect.DeepEqual(g, before)
}
