package reads_test

import (
	"fmt"
	"math/rand"
	"slices"
	"testing"

	"scoria/api"
	"scoria/code"
	"scoria/explore"
	"scoria/reads"
	"scoria/run"
)

// clonedCode is code without any of the memory of c.
func clonedCode(c api.Code) api.Code {
	c.Funs = slices.Clone(c.Funs)
	for i, f := range c.Funs {
		c.Funs[i].Body, c.Funs[i].From = slices.Clone(f.Body), slices.Clone(f.From)
	}
	return c
}

// edited is valid code that differs from another one in some way.
func edited(r *rand.Rand, c api.Code) api.Code {
	for {
		d := clonedCode(c)
		for range 1 + r.Intn(3) {
			edit(r, &d)
		}
		if code.Valid(d) {
			return d
		}
	}
}

// edit changes code, which may not be valid any more.
func edit(r *rand.Rand, c *api.Code) {
	f := &c.Funs[r.Intn(len(c.Funs))]
	x := &f.Body[r.Intn(len(f.Body))]
	switch k := r.Intn(12); {
	case k == 0:
		c.Chans = r.Intn(4)
	case k == 1:
		f.Words++
	case k == 2:
		f.Params++
	case k == 3:
		c.Funs = append(c.Funs, api.FunCode{Body: []api.Instr{{}, {Op: api.IReturn}}})
	case k == 4:
		f.Body = append(f.Body, api.Instr{}, api.Instr{Op: api.IReturn})
	case k == 5:
		f.Body = f.Body[:max(1, len(f.Body)-1)]
	case k == 6:
		x.Op = r.Intn(api.Instrs)
	case k == 7:
		x.B = r.Intn(4)
	case k == 8:
		f.From = nil
	default:
		x.A = []int{x.A + 1, x.A - 1, r.Intn(16) - 8, r.Intn(len(f.Body))}[r.Intn(4)]
	}
}

// P13.6: other code in which what a run asks for is the same has this run, too, which asks for the same.
func TestSameRun(t *testing.T) {
	r := rand.New(rand.NewSource(137))
	clear(seen)
	for _, c := range someCodes(t, r, 300) {
		fuel := anyFuel(r)
		x := ran(t, c, anyArgs(r, c), anySched(r), fuel)
		l := of(t, c, x, fuel)
		for range 6 {
			d := edited(r, c)
			again := run.Replay(d, x, fuel)
			if !reads.Holds(l, c, d) {
				count(!again, "another run of other code")
				continue
			}
			m, e := reads.Of(d, x, fuel)
			if !again || e != api.OK || !same(l, m) {
				t.Fatalf("P13.6: the run %v with the fuel %d asks for %v of %v; of %v it is one: %v, and asks for %v, with the error %d", x, fuel, l, c, d, again, m, e)
			}
			count(!code.Same(c, d), "the same run of other code")
			count(!code.Same(c, d) && c.Chans == d.Chans && len(c.Funs) == len(d.Funs), "the same run of code with other functions")
			count(!code.Same(c, d) && x.Out.End == api.EndFuel, "the same run of other code, used up")
			count(len(c.Funs) != len(d.Funs), "the same run of code with more functions")
			count(c.Chans != d.Chans, "the same run of code with other channels")
		}
	}
	expectSeen(t, 500, "the same run of other code", "the same run of code with other functions")
	expectSeen(t, 100, "another run of other code", "the same run of other code, used up", "the same run of code with more functions", "the same run of code with other channels")
}

// P13.6: each instruction that a run asks for, and that can be another one: the reads do not hold then, and for none of the others do they say so.
func TestEachInstruction(t *testing.T) {
	r := rand.New(rand.NewSource(138))
	clear(seen)
	for _, c := range someCodes(t, r, 40) {
		x := ran(t, c, anyArgs(r, c), anySched(r), 300)
		l := of(t, c, x, 300)
		for f := range c.Funs {
			for at := range c.Funs[f].Body {
				d := clonedCode(c)
				d.Funs[f].Body[at].A++
				named := slices.Contains(l.Funs[f], at)
				if reads.Holds(l, c, d) == named {
					t.Fatalf("P13.4: the instruction %d of the function %d is another one in %v; the reads are %v", at, f, d, l)
				}
				if !named && code.Valid(d) && !run.Replay(d, x, 300) {
					t.Fatalf("P13.6: the instruction %d of the function %d is another one in %v; the run %v asks for %v", at, f, d, x, l)
				}
				count(!named && code.Valid(d), "an instruction that does not matter")
			}
		}
	}
	expectSeen(t, 500, "an instruction that does not matter")
}

// within reports whether reads contain others.
func within(a, b reads.Reads) bool {
	for f, indices := range a.Funs {
		for _, at := range indices {
			if f >= len(b.Funs) || !slices.Contains(b.Funs[f], at) {
				return false
			}
		}
	}
	return true
}

// P13.7: what a run asks for is contained in what all schedules ask for, and where this holds, there is the same graph.
func TestAllContain(t *testing.T) {
	r := rand.New(rand.NewSource(139))
	clear(seen)
	for _, c := range someCodes(t, r, 300) {
		args := anyArgs(r, c)
		l, e := reads.All(c, args, 60)
		if e != api.OK {
			continue
		}
		for range 4 {
			x := ran(t, c, args, anySched(r), 4096)
			m := of(t, c, x, 4096)
			if x.Out.End != api.EndFuel && !within(m, l) {
				t.Fatalf("P13.7: the run %v of %v asks for %v, and all schedules for %v", x, c, m, l)
			}
			count(!same(m, l), "less than all")
		}
		g, _ := explore.All(c, args, 60)
		for range 6 {
			d := edited(r, c)
			h, e := explore.All(d, args, 60)
			if c.Chans != d.Chans || !reads.Holds(l, c, d) {
				count(fmt.Sprint(g) != fmt.Sprint(h), "another graph")
				continue
			}
			m, wrong := reads.All(d, args, 60)
			if e != api.OK || wrong != api.OK || fmt.Sprint(g) != fmt.Sprint(h) || !same(l, m) {
				t.Fatalf("P13.7: all schedules ask for %v of %v and for %v of %v; the graphs are %v and %v", l, c, m, d, g, h)
			}
			count(!code.Same(c, d), "the same graph of other code")
		}
	}
	expectSeen(t, 20, "less than all")
	expectSeen(t, 500, "another graph", "the same graph of other code")
}

// ways calls f with the schedules of all maximal ways of a graph that has few of them; false, if it has too many.
func ways(g explore.Graph, f func(sched []int)) bool {
	left := 300
	var visit func(state int, sched []int)
	visit = func(state int, sched []int) {
		if len(sched) > 100 {
			left = 0
		}
		last := true
		for _, x := range g.Edges {
			if x.From == state && left > 0 {
				last = false
				visit(x.To, append(slices.Clone(sched), x.Proc))
			}
		}
		if last && left > 0 {
			left--
			f(sched)
		}
	}
	visit(0, nil)
	return left > 0
}

// P13.2, P13.7: all runs together ask for what all schedules ask for.
func TestAllTogether(t *testing.T) {
	r := rand.New(rand.NewSource(1310))
	clear(seen)
	for _, c := range someCodes(t, r, 250) {
		args := anyArgs(r, c)
		l, e := reads.All(c, args, 60)
		if e != api.OK {
			continue
		}
		g, _ := explore.All(c, args, 60)
		var together reads.Reads
		var parts []reads.Reads
		ended := true
		if !ways(g, func(sched []int) {
			x := ran(t, c, args, sched, 4096)
			ended = ended && x.Out.End != api.EndFuel
			parts = append(parts, of(t, c, x, 4096))
			together = reads.Join(together, parts[len(parts)-1])
		}) || !ended {
			continue
		}
		if !same(together, l) {
			t.Fatalf("P13.2: all runs of %v ask for %v, and all schedules for %v", c, together, l)
		}
		count(len(parts) > 1, "several ways")
		count(slices.ContainsFunc(parts, func(x reads.Reads) bool { return !same(x, l) }), "a way that asks for less")
	}
	expectSeen(t, 60, "several ways")
	expectSeen(t, 10, "a way that asks for less")
}

// P13.8: joins of what runs and all schedules ask for.
func TestJoinLaws(t *testing.T) {
	r := rand.New(rand.NewSource(1311))
	clear(seen)
	for _, c := range someCodes(t, r, 150) {
		other := edited(r, c)
		var l []reads.Reads
		for _, d := range []api.Code{c, c, other, anyThreads(t, r)} {
			l = append(l, of(t, d, ran(t, d, anyArgs(r, d), anySched(r), 200), 200))
		}
		if m, e := reads.All(c, anyArgs(r, c), 60); e == api.OK {
			l[1] = m
		}
		for _, a := range l {
			if got := reads.Join(a, a); !equal(got, a) {
				t.Fatalf("P13.8: %v joined with itself is %v", a, got)
			}
			for _, b := range l {
				ab := reads.Join(a, b)
				if ba := reads.Join(b, a); !equal(ab, ba) {
					t.Fatalf("P13.8: %v and %v are joined to %v and to %v", a, b, ab, ba)
				}
				if !within(a, ab) || !within(b, ab) || len(ab.Funs) != max(len(a.Funs), len(b.Funs)) {
					t.Fatalf("P13.3: %v and %v are joined to %v", a, b, ab)
				}
				expectBoth(t, a, b, c, other)
				for _, x := range l {
					if y, z := reads.Join(ab, x), reads.Join(a, reads.Join(b, x)); !equal(y, z) {
						t.Fatalf("P13.8: %v, %v and %v are joined to %v and to %v", a, b, x, y, z)
					}
				}
			}
		}
	}
	expectSeen(t, 200, "the join holds", "one of both holds", "none of both holds")
}

// expectBoth says whether a join of reads that holds does so for both, and one that does not, for one of them at most.
func expectBoth(t *testing.T, a, b reads.Reads, c, d api.Code) {
	t.Helper()
	join, first, second := reads.Holds(reads.Join(a, b), c, d), reads.Holds(a, c, d), reads.Holds(b, c, d)
	if join != (first && second) {
		t.Fatalf("P13.8: the join of %v and %v holds: %v; both of them: %v and %v, for %v and %v", a, b, join, first, second, c, d)
	}
	count(join, "the join holds")
	count(first != second, "one of both holds")
	count(!first && !second, "none of both holds")
}

// P13.9: reads hold for the code itself, and with more fuel there are not less of them.
func TestOwn(t *testing.T) {
	r := rand.New(rand.NewSource(1312))
	clear(seen)
	for _, c := range someCodes(t, r, 250) {
		args, sched := anyArgs(r, c), anySched(r)
		var before reads.Reads
		for _, fuel := range []int{0, r.Intn(4), 3 + r.Intn(10), 13 + r.Intn(40), 60 + r.Intn(200), 4096} {
			x := ran(t, c, args, sched, fuel)
			l := of(t, c, x, fuel)
			if !reads.Holds(l, c, c) || !reads.Holds(l, c, clonedCode(c)) {
				t.Fatalf("P13.9: %v does not hold for %v and itself", l, c)
			}
			if !within(before, l) {
				t.Fatalf("P13.9: %v is not contained in %v, with the fuel %d, for %v, the arguments %v and the schedule %v", before, l, fuel, c, args, sched)
			}
			count(!same(before, l), "more with more fuel")
			before = l
		}
		if l, e := reads.All(c, args, 100); e == api.OK && !reads.Holds(l, c, c) {
			t.Fatalf("P13.9: %v does not hold for %v and itself", l, c)
		}
	}
	expectSeen(t, 1000, "more with more fuel")
}
