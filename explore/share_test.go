package explore_test

import (
	"math/rand"
	"reflect"
	"slices"
	"testing"

	"scoria/api"
	"scoria/explore"
)

// mark is a number that nothing in the tests has.
const mark = -777

// room is l with room behind it, where a careless append would leave its traces.
func room[E any](l []E) []E {
	return append(make([]E, 0, len(l)+3), l...)
}

// all is l with all that lies in the room behind it.
func all[E any](l []E) []E {
	return slices.Clone(l[:cap(l)])
}

// mapCode is c with another list in the place of each list.
func mapCode(c api.Code, funs func([]api.FunCode) []api.FunCode, body func([]api.Instr) []api.Instr, from func([]int) []int) api.Code {
	c.Funs = funs(c.Funs)
	for i, f := range c.Funs {
		c.Funs[i].Body, c.Funs[i].From = body(f.Body), from(f.From)
	}
	return c
}

// roomyCode is c with room behind all of its lists.
func roomyCode(c api.Code) api.Code { return mapCode(c, room, room, room) }

// wholeCode is c with all that lies in the room behind its lists.
func wholeCode(c api.Code) api.Code { return mapCode(c, all, all, all) }

// lists says what becomes of the lists of a graph.
type lists struct {
	states func([]api.State) []api.State
	edges  func([]explore.Edge) []explore.Edge
	events func([]api.Event) []api.Event
	procs  func([]api.Proc) []api.Proc
	frames func([]api.Frame) []api.Frame
	tries  func([]api.Try) []api.Try
	chans  func([][]int) [][]int
	ints   func([]int) []int
}

// roomy puts room behind lists.
func roomy() lists {
	return lists{room[api.State], room[explore.Edge], room[api.Event], room[api.Proc], room[api.Frame], room[api.Try], room[[]int], room[int]}
}

// whole takes also what lies in the room behind lists.
func whole() lists {
	return lists{all[api.State], all[explore.Edge], all[api.Event], all[api.Proc], all[api.Frame], all[api.Try], all[[]int], all[int]}
}

// graph is g with other lists.
func (l lists) graph(g explore.Graph) explore.Graph {
	g.States, g.Edges, g.Ends, g.First = l.states(g.States), l.edges(g.Edges), l.ints(g.Ends), l.events(g.First)
	for i, x := range g.Edges {
		g.Edges[i].Events = l.events(x.Events)
	}
	for i, s := range g.States {
		g.States[i].Procs, g.States[i].Chans = l.procs(s.Procs), l.chans(s.Chans)
		for j, words := range g.States[i].Chans {
			g.States[i].Chans[j] = l.ints(words)
		}
		for j, p := range g.States[i].Procs {
			p.Frames = l.frames(p.Frames)
			g.States[i].Procs[j] = p
			for k, f := range p.Frames {
				f.Words, f.Stack, f.Tries = l.ints(f.Words), l.ints(f.Stack), l.tries(f.Tries)
				p.Frames[k] = f
			}
		}
	}
	return g
}

// Rules: arguments are not changed.
func TestArgumentsStay(t *testing.T) {
	r := rand.New(rand.NewSource(1201))
	tried := 0
	for _, c := range someCodes(t, r, 150) {
		c = roomyCode(c)
		code := wholeCode(c)
		args := room(anyArgs(r, c))
		numbers := all(args)
		g, e := explore.All(c, args, 40)
		if e != api.OK {
			continue
		}
		g = roomy().graph(g)
		graphs := []explore.Graph{g, roomy().graph(rearranged(g, shuffled(r, len(g.States))))}
		graphs = append(graphs, roomy().graph(anyGraph(r)))
		other := roomy().graph(g)
		other.Edges = other.Edges[:len(other.Edges)/2]
		for _, x := range append(graphs, other) {
			before := whole().graph(x)
			explore.Check(c, args, x)
			l, _ := explore.Outcomes(x, 100)
			explore.Outcomes(x, 1)
			for _, o := range append(l, api.Outcome{}) {
				o.Events = room(o.Events)
				events := all(o.Events)
				explore.Witness(c, args, o, 40)
				tried++
				if !slices.Equal(all(o.Events), events) {
					t.Fatalf("Rules: the events %v have changed", o.Events)
				}
			}
			if !reflect.DeepEqual(whole().graph(x), before) {
				t.Fatalf("Rules: the graph %v has changed", x)
			}
		}
		if !slices.Equal(all(args), numbers) {
			t.Fatalf("Rules: the arguments %v have changed", args)
		}
		if !reflect.DeepEqual(wholeCode(c), code) {
			t.Fatalf("Rules: the code %v has changed", c)
		}
	}
	if tried < 500 {
		t.Errorf("only %d outcomes", tried)
	}
}

// cell is a list without lists in it.
type cell struct {
	set func(n int)      // makes all of it a number, also what lies in the room behind it
	has func(n int) bool // reports whether all of it is a number
}

// cellOf is the cell of a list, of which one sets the elements, and gets what was set.
func cellOf[E any](l []E, set func(x *E, n int), get func(x E) int) cell {
	return cell{
		set: func(n int) {
			for i := range l[:cap(l)] {
				set(&l[:cap(l)][i], n)
			}
		},
		has: func(n int) bool {
			return !slices.ContainsFunc(l, func(x E) bool { return get(x) != n })
		},
	}
}

// numbers is the cell of a list of numbers.
func numbers(l []int) cell {
	return cellOf(l, func(x *int, n int) { *x = n }, func(x int) int { return x })
}

// events is the cell of a list of events.
func events(l []api.Event) cell {
	return cellOf(l, func(x *api.Event, n int) { *x = api.Event{Proc: n, Kind: n, N: n} }, func(x api.Event) int { return x.N })
}

// cells has all cells of a graph. Of frames, states and edges, which have lists, a number counts.
func cells(g explore.Graph) []cell {
	l := []cell{
		numbers(g.Ends), events(g.First),
		cellOf(g.Edges, func(x *explore.Edge, n int) { x.Proc = n }, func(x explore.Edge) int { return x.Proc }),
		cellOf(g.States, func(x *api.State, n int) { x.Steps = n }, func(x api.State) int { return x.Steps }),
	}
	for _, x := range g.Edges {
		l = append(l, events(x.Events))
	}
	for _, s := range g.States {
		for _, words := range s.Chans {
			l = append(l, numbers(words))
		}
		for _, p := range s.Procs {
			l = append(l, cellOf(p.Frames, func(x *api.Frame, n int) { x.Fun = n }, func(x api.Frame) int { return x.Fun }))
			for _, f := range p.Frames {
				l = append(l, numbers(f.Words), numbers(f.Stack))
				l = append(l, cellOf(f.Tries, func(x *api.Try, n int) { *x = api.Try{At: n, Word: n, Height: n} }, func(x api.Try) int { return x.At }))
			}
		}
	}
	return l
}

// expectApart says whether one of cells changes when others are set.
func expectApart(t *testing.T, l []cell) {
	t.Helper()
	for i, x := range l {
		x.set(mark + i)
	}
	for i, x := range l {
		if !x.has(mark + i) {
			t.Fatalf("Rules: the list %d of a result shares memory with another one", i)
		}
	}
}

// Rules: graphs share no memory with arguments, with other graphs, or within themselves.
func TestGraphsShareNothing(t *testing.T) {
	r := rand.New(rand.NewSource(1202))
	tried := 0
	for _, c := range someCodes(t, r, 150) {
		args := room(anyArgs(r, c))
		words := slices.Clone(args)
		g, e := explore.All(c, args, 40)
		if e != api.OK {
			continue
		}
		tried++
		want := cloned(g)
		other := explored(t, c, args, 40)
		numbers(args).set(mark)
		expectApart(t, cells(other))
		if !identical(g, want) {
			t.Fatalf("Rules: a graph shares memory with another one, or with arguments: %v has become %v", want, g)
		}
		if again := explored(t, c, words, 40); !identical(again, want) {
			t.Fatalf("Rules: equal calls return %v and %v", want, again)
		}
	}
	if tried < 100 {
		t.Errorf("only %d graphs", tried)
	}
}

// Rules: outcomes and schedules share no memory with graphs, with others, or within themselves.
func TestOutcomesShareNothing(t *testing.T) {
	r := rand.New(rand.NewSource(1203))
	tried := 0
	for range 2000 {
		g := anyGraph(r)
		l, e := explore.Outcomes(g, 100)
		if e != api.OK {
			continue
		}
		tried++
		before := cloned(g)
		var want []api.Outcome
		for _, o := range l {
			want = append(want, api.Outcome{Events: slices.Clone(o.Events), End: o.End})
		}
		var apart []cell
		again, _ := explore.Outcomes(g, 100)
		for _, o := range again {
			apart = append(apart, events(o.Events))
		}
		expectApart(t, apart)
		if !identical(g, before) || !sameOutcomes(l, want) {
			t.Fatalf("Rules: outcomes share memory with the graph %v, or with others", before)
		}
		for _, x := range cells(g) {
			x.set(mark)
		}
		if !sameOutcomes(l, want) {
			t.Fatalf("Rules: outcomes share memory with the graph %v", before)
		}
	}
	if tried < 500 {
		t.Errorf("only %d graphs", tried)
	}
	c := both(t)
	o := api.Outcome{Events: []api.Event{{N: 1}, {Proc: 1, N: 2}, {Kind: api.EvEnd}, {Proc: 1, Kind: api.EvEnd}}}
	first, e := explore.Witness(c, nil, o, 10)
	second, _ := explore.Witness(c, nil, o, 10)
	numbers(first).set(mark)
	if want := []int{0, 0, 1, 0, 1}; e != api.OK || !slices.Equal(second, want) {
		t.Errorf("Rules: the error %d, and a witness that has become %v", e, second)
	}
}
