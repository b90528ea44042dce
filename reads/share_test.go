package reads_test

import (
	"math/rand"
	"reflect"
	"slices"
	"testing"

	"scoria/api"
	"scoria/reads"
)

// mark is a number that nothing in the tests has.
const mark = -777

// room is l with room behind it, where a careless append would leave its traces.
func room[E any](l []E) []E {
	return append(make([]E, 0, len(l)+3), l...)
}

// all is l with all that lies in the room behind it.
func all[E any](l []E) []E {
	return slices.Clone(l[:cap(l)])
}

// mapCode is c with another list in the place of each list.
func mapCode(c api.Code, funs func([]api.FunCode) []api.FunCode, body func([]api.Instr) []api.Instr, from func([]int) []int) api.Code {
	c.Funs = funs(c.Funs)
	for i, f := range c.Funs {
		c.Funs[i].Body, c.Funs[i].From = body(f.Body), from(f.From)
	}
	return c
}

// roomyCode is c with room behind all of its lists.
func roomyCode(c api.Code) api.Code { return mapCode(c, room, room, room) }

// wholeCode is c with all that lies in the room behind its lists.
func wholeCode(c api.Code) api.Code { return mapCode(c, all, all, all) }

// mapRun is r with another list in the place of each list.
func mapRun(r api.Run, ints func([]int) []int, events func([]api.Event) []api.Event) api.Run {
	r.Args, r.Sched, r.Out.Events = ints(r.Args), ints(r.Sched), events(r.Out.Events)
	return r
}

// mapReads is r with another list in the place of each list.
func mapReads(r reads.Reads, funs func([][]int) [][]int, ints func([]int) []int) reads.Reads {
	r.Funs = funs(r.Funs)
	for i, l := range r.Funs {
		r.Funs[i] = ints(l)
	}
	return r
}

// roomyReads is r with room behind all of its lists.
func roomyReads(r reads.Reads) reads.Reads { return mapReads(r, room, room) }

// wholeReads is r with all that lies in the room behind its lists.
func wholeReads(r reads.Reads) reads.Reads { return mapReads(r, all, all) }

// clonedReads is reads without any of the memory of r.
func clonedReads(r reads.Reads) reads.Reads {
	return mapReads(r, slices.Clone[[][]int], slices.Clone[[]int])
}

// fill makes a list a number, also what lies in the room behind it.
func fill(l []int, n int) {
	l = l[:cap(l)]
	for i := range l {
		l[i] = n
	}
}

// expectApart fills each function of reads with another number, and says whether any of them has changed others.
func expectApart(t *testing.T, r reads.Reads) {
	t.Helper()
	for f, l := range r.Funs {
		fill(l, mark+f)
	}
	for f, l := range r.Funs {
		if slices.ContainsFunc(l, func(n int) bool { return n != mark+f }) {
			t.Fatalf("Rules: the function %d of reads shares memory with another one", f)
		}
	}
	clear(r.Funs[:cap(r.Funs)])
}

// Rules: code, runs and arguments are not changed by Of and All, and their results share no memory with others.
func TestOfKeepsApart(t *testing.T) {
	r := rand.New(rand.NewSource(1313))
	tried := 0
	for _, c := range someCodes(t, r, 100) {
		c = roomyCode(c)
		args := room(anyArgs(r, c))
		x := mapRun(ran(t, c, args, anySched(r), 200), room, room)
		code, whole, numbers := wholeCode(c), mapRun(x, all, all), all(args)
		l := of(t, c, x, 200)
		want := clonedReads(l)
		expectApart(t, of(t, c, x, 200))
		if m, e := reads.All(c, args, 40); e == api.OK {
			tried++
			again := clonedReads(m)
			expectApart(t, allOf(t, c, args, 40))
			if !equal(m, again) || !equal(allOf(t, c, args, 40), again) {
				t.Fatalf("Rules: reads that All returned are %v, and were %v", m, again)
			}
		}
		if !reflect.DeepEqual(wholeCode(c), code) || !reflect.DeepEqual(mapRun(x, all, all), whole) || !slices.Equal(all(args), numbers) {
			t.Fatalf("Rules: %v, the run %v, or the arguments %v have changed", c, x, args)
		}
		if !equal(of(t, c, x, 200), want) {
			t.Fatalf("Rules: equal calls return different reads for %v and %v", c, x)
		}
		fill(x.Args, mark)
		fill(x.Sched, mark)
		if !equal(l, want) {
			t.Fatalf("Rules: reads that Of returned are %v, and were %v", l, want)
		}
	}
	if tried < 100 {
		t.Errorf("only %d times all schedules", tried)
	}
}

// Rules: reads and codes are not changed by Join, Holds and Nodes, and their results share no memory with others.
func TestJoinKeepsApart(t *testing.T) {
	r := rand.New(rand.NewSource(1314))
	for range 3000 {
		a, b := roomyReads(anyReads(r)), roomyReads(anyReads(r))
		c, d := roomyCode(anyNumbers(r)), roomyCode(anyNumbers(r))
		first, second, code, other := wholeReads(a), wholeReads(b), wholeCode(c), wholeCode(d)
		join, nodes := reads.Join(a, b), reads.Nodes(c, a)
		want, numbers := clonedReads(join), slices.Clone(nodes)
		reads.Holds(a, c, d)
		expectApart(t, reads.Join(a, b))
		fill(reads.Nodes(c, a), mark)
		if !reflect.DeepEqual(wholeReads(a), first) || !reflect.DeepEqual(wholeReads(b), second) {
			t.Fatalf("Rules: the reads %v or %v have changed", a, b)
		}
		if !reflect.DeepEqual(wholeCode(c), code) || !reflect.DeepEqual(wholeCode(d), other) {
			t.Fatalf("Rules: the code %v or %v has changed", c, d)
		}
		for _, l := range slices.Concat(a.Funs, b.Funs) {
			fill(l, mark)
		}
		for _, f := range c.Funs {
			fill(f.From, mark)
		}
		if !equal(join, want) || !slices.Equal(nodes, numbers) {
			t.Fatalf("Rules: results share memory: %v has become %v, and %v %v", want, join, numbers, nodes)
		}
	}
}

// Rules: the reads of a join are apart from those of the only one that has them.
func TestJoinAlone(t *testing.T) {
	for _, x := range []struct{ a, b reads.Reads }{
		{reads.Reads{Funs: [][]int{{1, 2}, {3}}}, reads.Reads{}},
		{reads.Reads{}, reads.Reads{Funs: [][]int{{1, 2}, {3}}}},
		{reads.Reads{Funs: [][]int{{1, 2}}}, reads.Reads{Funs: [][]int{nil, {3}}}},
	} {
		join := reads.Join(x.a, x.b)
		for _, l := range slices.Concat(x.a.Funs, x.b.Funs) {
			fill(l, mark)
		}
		if told(join) != "1 2 | 3" {
			t.Errorf("Rules: a join shares memory: %s", told(join))
		}
		again := reads.Join(join, join)
		expectApart(t, again)
		if told(join) != "1 2 | 3" {
			t.Errorf("Rules: a join with itself shares memory: %s", told(join))
		}
	}
}
