package explore

import (
	"maps"
	"slices"

	"scoria/api"
	"scoria/run"
)

// network is the ways of a graph: for each state the edges that begin there, and the end of the ways that end there.
type network struct {
	leaving [][]Edge
	ends    []int
	// first is what all ways begin with: an edge from nowhere to the first state.
	first Edge
}

// networkOf returns the ways of a graph; false, if there is no first state, or something is said of a state that does not exist, or of one not at all.
func networkOf(g Graph) (network, bool) {
	count := len(g.States)
	if count == 0 || len(g.Ends) != count {
		return network{}, false
	}
	n := network{leaving: make([][]Edge, count), ends: g.Ends, first: Edge{From: nowhere, Events: g.First}}
	for _, x := range g.Edges {
		if x.From < 0 || x.From >= count || x.To < 0 || x.To >= count {
			return network{}, false
		}
		n.leaving[x.From] = append(n.leaving[x.From], x)
	}
	return n, true
}

// reached returns the states to which ways lead.
func (n network) reached() []int {
	met := make([]bool, len(n.leaving))
	states := []int{n.first.To}
	met[n.first.To] = true
	for i := 0; i < len(states); i++ {
		for _, x := range n.leaving[states[i]] {
			if !met[x.To] {
				met[x.To] = true
				states = append(states, x.To)
			}
		}
	}
	return states
}

// endless reports whether a way leads to a state of a circle: whether states are left, if those to which no edge leads are taken away, with their edges, one after the other.
func (n network) endless() bool {
	states := n.reached()
	into := make([]int, len(n.leaving))
	for _, s := range states {
		for _, x := range n.leaving[s] {
			into[x.To]++
		}
	}
	if into[n.first.To] > 0 {
		return true
	}
	free := []int{n.first.To}
	for i := 0; i < len(free); i++ {
		for _, x := range n.leaving[free[i]] {
			into[x.To]--
			if into[x.To] == 0 {
				free = append(free, x.To)
			}
		}
	}
	return len(free) < len(states)
}

// point is a point of an edge of a way: that behind some of its events.
type point struct {
	edge   Edge
	passed int
}

// onward lets all ways that go through points go on up to behind their next events. It returns the points that they reach, by these events, and the ends of the ways without a next event, in order.
func (n network) onward(points []point) (map[api.Event][]point, []int) {
	behind := map[api.Event][]point{}
	var ends []int
	met := map[int]bool{}
	for len(points) > 0 {
		p := points[len(points)-1]
		points = points[:len(points)-1]
		if p.passed < len(p.edge.Events) {
			event := p.edge.Events[p.passed]
			behind[event] = append(behind[event], point{edge: p.edge, passed: p.passed + 1})
			continue
		}
		// Ways with the same events that meet in a state go on in the same ways.
		s := p.edge.To
		if met[s] {
			continue
		}
		met[s] = true
		if len(n.leaving[s]) == 0 {
			ends = append(ends, n.ends[s])
		}
		for _, x := range n.leaving[s] {
			points = append(points, point{edge: x})
		}
	}
	slices.Sort(ends)
	return behind, slices.Compact(ends)
}

// compareEvents orders events as outcomes that have them alone.
func compareEvents(a, b api.Event) int {
	return run.Compare(api.Outcome{Events: []api.Event{a}}, api.Outcome{Events: []api.Event{b}})
}

// outcomes returns the outcomes of the maximal ways of a network that is not endless, in order; false, if there are more than most.
func (n network) outcomes(most int) ([]api.Outcome, bool) {
	var found []api.Outcome
	enough := true
	// collect finds the outcomes of the ways through points that are behind the same events. As many lists of points wait for other calls, and each of them leads to an outcome at least.
	var collect func(points []point, events []api.Event, waiting int)
	collect = func(points []point, events []api.Event, waiting int) {
	ways:
		for {
			behind, ends := n.onward(points)
			for _, end := range ends {
				found = append(found, api.Outcome{Events: slices.Clone(events), End: end})
			}
			if len(found)+waiting+len(behind) > most {
				enough = false
				break
			}
			if len(behind) == 0 {
				break
			}
			next := slices.SortedFunc(maps.Keys(behind), compareEvents)
			last := len(next) - 1
			for i, x := range next[:last] {
				collect(behind[x], append(events, x), waiting+last-i)
				if !enough {
					break ways
				}
			}
			// Nothing waits for the last list: without a call for it, calls do not nest deeper than lists are waiting, however long a way is.
			points, events = behind[next[last]], append(events, next[last])
		}
	}
	collect([]point{{edge: n.first}}, nil, 0)
	return found, enough
}

// Outcomes returns the different outcomes of a graph, in order.
func Outcomes(g Graph, most int) ([]api.Outcome, api.Errno) {
	if most < 1 || most > api.MaxStates {
		return nil, api.ErrArg
	}
	n, ok := networkOf(g)
	if !ok {
		return nil, api.ErrArg
	}
	if n.endless() {
		return nil, api.ErrLimit
	}
	l, enough := n.outcomes(most)
	if !enough {
		return nil, api.ErrLimit
	}
	return l, api.OK
}

// moment is where a way stands: in a state, with the number of its events.
type moment struct {
	state  int
	events int
}

// witness returns the first schedule of a maximal way with an outcome, in a network that is not endless; false, if there is none.
func (n network) witness(o api.Outcome) ([]int, bool) {
	var sched []int
	failed := map[moment]bool{}
	// lead reports whether an edge leads to the outcome, behind as many events of it.
	var lead func(x Edge, events int) bool
	lead = func(x Edge, events int) bool {
		at := moment{state: x.To, events: events + len(x.Events)}
		if at.events > len(o.Events) || !slices.Equal(o.Events[events:at.events], x.Events) || failed[at] {
			return false
		}
		leaving := n.leaving[at.state]
		if len(leaving) == 0 && at.events == len(o.Events) && n.ends[at.state] == o.End {
			return true
		}
		for _, y := range leaving {
			sched = append(sched, y.Proc)
			if lead(y, at.events) {
				return true
			}
			sched = sched[:len(sched)-1]
		}
		// Other ways can meet here, too: without this, there could be too many to be tried.
		failed[at] = true
		return false
	}
	ok := lead(n.first, 0)
	return sched, ok
}

// Witness returns the least schedule with an outcome.
func Witness(c api.Code, args []int, o api.Outcome, most int) ([]int, api.Errno) {
	g, e := All(c, args, most)
	if e != api.OK {
		return nil, e
	}
	n, ok := networkOf(g)
	if !ok || n.endless() {
		return nil, api.ErrLimit
	}
	sched, ok := n.witness(o)
	if !ok {
		return nil, api.ErrNone
	}
	return sched, api.OK
}
