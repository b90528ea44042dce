package explore

import (
	"cmp"
	"slices"

	"scoria/api"
	"scoria/vm"
)

// nowhere stands in the place of the index of a state that is not known yet.
const nowhere = -1

// positions returns, for each state of a graph, where it stands in a list with just its states, of which the first one is the same; false, if the list is none.
func positions(g Graph, states []api.State) ([]int, bool) {
	at := slices.Repeat([]int{nowhere}, len(g.States))
	known := catalogOf(g.States...)
	for i, s := range states {
		place := known.place(s)
		if s.Steps != 0 || place >= len(at) || at[place] != nowhere {
			return nil, false
		}
		at[place] = i
	}
	return at, len(states) == len(at) && at[0] == 0
}

// compareEdges orders the edges of a graph.
func compareEdges(a, b Edge) int {
	return cmp.Or(cmp.Compare(a.From, b.From), cmp.Compare(a.Proc, b.Proc))
}

// sameEdge reports whether two edges are equal.
func sameEdge(a, b Edge) bool {
	return a.From == b.From && a.Proc == b.Proc && a.To == b.To && slices.Equal(a.Events, b.Events)
}

// sameWays reports whether two graphs with the same number of states are equal but for the states, when the states of the first one have been moved to other positions.
func sameWays(a Graph, at []int, b Graph) bool {
	ends := make([]int, len(at))
	for i, end := range a.Ends {
		ends[at[i]] = end
	}
	edges := slices.Clone(a.Edges)
	for i, x := range edges {
		edges[i].From, edges[i].To = at[x.From], at[x.To]
	}
	slices.SortFunc(edges, compareEdges)
	return slices.Equal(ends, b.Ends) && slices.EqualFunc(edges, b.Edges, sameEdge) && slices.Equal(a.First, b.First)
}

// Check reports whether a graph is what all schedules reach.
func Check(c api.Code, args []int, g Graph) api.Errno {
	if _, _, e := vm.New(c, args, api.MaxFuel); e != api.OK {
		return e
	}
	all, e := All(c, args, len(g.States))
	if e != api.OK {
		return api.ErrCheck
	}
	if at, ok := positions(all, g.States); !ok || !sameWays(all, at, g) {
		return api.ErrCheck
	}
	return api.OK
}
