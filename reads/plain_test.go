package reads_test

import (
	"slices"
	"testing"

	"scoria/api"
	"scoria/explore"
	"scoria/reads"
	"scoria/vm"
)

// seen counts what happened.
var seen = map[string]int{}

// count counts something that is so.
func count(so bool, name string) {
	if so {
		seen[name]++
	}
}

// expectSeen says which things happened less often than least.
func expectSeen(t *testing.T, least int, names ...string) {
	t.Helper()
	for _, name := range names {
		if seen[name] < least {
			t.Errorf("only %d times: %s", seen[name], name)
		}
	}
}

// stop is the state with which vm.New, and the turns of a run, stop if the fuel is a number.
func stop(c api.Code, r api.Run, fuel int) api.State {
	s, _, e := vm.New(c, r.Args, fuel)
	for _, proc := range r.Sched {
		if e != api.OK {
			break
		}
		s, _, e = vm.Turn(c, s, proc, fuel)
	}
	return s
}

// asks reports whether a process stands before an instruction.
func asks(s api.State, f, at int) bool {
	for _, p := range s.Procs {
		if n := len(p.Frames); n > 0 && p.Frames[n-1].Fun == f && p.Frames[n-1].At == at {
			return true
		}
	}
	return false
}

// plainReads is what is asked for in moments.
func plainReads(c api.Code, moments []api.State) reads.Reads {
	var r reads.Reads
	for f := range c.Funs {
		var indices []int
		for at := range c.Funs[f].Body {
			if slices.ContainsFunc(moments, func(s api.State) bool { return asks(s, f, at) }) {
				indices = append(indices, at)
			}
		}
		r.Funs = append(r.Funs, indices)
	}
	return r
}

// plainOf is what Of has to return, for code that is valid and a run of it.
func plainOf(c api.Code, r api.Run) reads.Reads {
	var moments []api.State
	for fuel := 0; fuel <= r.Steps; fuel++ {
		moments = append(moments, stop(c, r, fuel))
	}
	return plainReads(c, moments)
}

// plainAll is what All has to return, for code that is valid.
func plainAll(c api.Code, args []int, most int) (reads.Reads, api.Errno) {
	g, e := explore.All(c, args, most)
	if e != api.OK {
		return reads.Reads{}, e
	}
	var moments []api.State
	for fuel := 0; ; fuel++ {
		s, _, e := vm.New(c, args, fuel)
		moments = append(moments, s)
		if e == api.OK {
			break
		}
	}
	for _, x := range g.Edges {
		for fuel := 0; ; fuel++ {
			s, _, e := vm.Turn(c, g.States[x.From], x.Proc, fuel)
			moments = append(moments, s)
			if e == api.OK {
				break
			}
		}
	}
	return plainReads(c, moments), api.OK
}

// set is the numbers of lists in increasing order, each once.
func set(lists ...[]int) []int {
	l := slices.Concat(lists...)
	slices.Sort(l)
	return slices.Compact(l)
}

// plainJoin is what Join has to return.
func plainJoin(a, b reads.Reads) reads.Reads {
	var r reads.Reads
	for f := 0; f < len(a.Funs) || f < len(b.Funs); f++ {
		var lists [][]int
		for _, x := range []reads.Reads{a, b} {
			if f < len(x.Funs) {
				lists = append(lists, x.Funs[f])
			}
		}
		r.Funs = append(r.Funs, set(lists...))
	}
	return r
}

// instr is an instruction of code, if it exists.
func instr(c api.Code, f, at int) (api.Instr, bool) {
	if f >= len(c.Funs) || at < 0 || at >= len(c.Funs[f].Body) {
		return api.Instr{}, false
	}
	return c.Funs[f].Body[at], true
}

// plainHolds is what Holds has to return.
func plainHolds(r reads.Reads, c, d api.Code) bool {
	for f, indices := range r.Funs {
		for _, at := range indices {
			x, inC := instr(c, f, at)
			y, inD := instr(d, f, at)
			if !inC || !inD || x != y || c.Funs[f].Params != d.Funs[f].Params || c.Funs[f].Words != d.Funs[f].Words {
				return false
			}
		}
	}
	return true
}

// plainNodes is what Nodes has to return.
func plainNodes(c api.Code, r reads.Reads) []int {
	var l []int
	for f, indices := range r.Funs {
		for _, at := range indices {
			if _, ok := instr(c, f, at); ok && at < len(c.Funs[f].From) {
				l = append(l, c.Funs[f].From[at])
			}
		}
	}
	return set(l)
}

// expectPlainOf compares Of with what it has to return, and returns this and the run.
func expectPlainOf(t *testing.T, c api.Code, args, sched []int, fuel int) (reads.Reads, api.Run) {
	t.Helper()
	r := ran(t, c, args, sched, fuel)
	want := plainOf(c, r)
	got, e := reads.Of(c, r, fuel)
	if e != api.OK || !equal(got, want) {
		t.Fatalf("P13.1: the error %d and %v, and not %v, for %v, the run %v and the fuel %d", e, got, want, c, r, fuel)
	}
	return got, r
}

// expectPlainAll compares All with what it has to return.
func expectPlainAll(t *testing.T, c api.Code, args []int, most int) (reads.Reads, api.Errno) {
	t.Helper()
	want, wrong := plainAll(c, args, most)
	got, e := reads.All(c, args, most)
	if e != wrong || !equal(got, want) {
		t.Fatalf("P13.2: the error %d and %v, and not %d and %v, for %v, the arguments %v and most %d", e, got, wrong, want, c, args, most)
	}
	return got, e
}

// executed is which instructions a run executes: those before which a process stands that is another one in the next moment. (A jump to itself is not among them.)
func executed(t *testing.T, c api.Code, r api.Run) map[[2]int]bool {
	t.Helper()
	l := map[[2]int]bool{}
	for fuel := range r.Steps {
		before, after := stop(c, r, fuel), stop(c, r, fuel+1)
		if after.Steps != fuel+1 {
			t.Fatalf("P10.6: %d steps with the fuel %d", after.Steps, fuel+1)
		}
		for i, p := range before.Procs {
			q := api.State{Procs: []api.Proc{p}}
			if n := len(p.Frames); n > 0 && !vm.Same(q, api.State{Procs: after.Procs[i : i+1]}) {
				l[[2]int{p.Frames[n-1].Fun, p.Frames[n-1].At}] = true
			}
		}
	}
	return l
}
