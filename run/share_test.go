package run_test

import (
	"math/rand"
	"reflect"
	"slices"
	"testing"

	"scoria/api"
	"scoria/run"
)

// mark is a number that no run of the tests has.
const mark = -777

// room is l with room behind it, where a careless append would leave its traces.
func room[E any](l []E) []E {
	return append(make([]E, 0, len(l)+3), l...)
}

// all is l with all that lies in the room behind it.
func all[E any](l []E) []E {
	return slices.Clone(l[:cap(l)])
}

// spoil changes all numbers of a list, also in the room behind it.
func spoil(l []int) {
	for i := range l[:cap(l)] {
		l[:cap(l)][i] = mark
	}
}

// roomyCode is c with room behind all of its lists.
func roomyCode(c api.Code) api.Code {
	c.Funs = room(c.Funs)
	for i, f := range c.Funs {
		c.Funs[i].Body, c.Funs[i].From = room(f.Body), room(f.From)
	}
	return c
}

// wholeCode is c with all that lies in the room behind its lists.
func wholeCode(c api.Code) api.Code {
	c.Funs = all(c.Funs)
	for i, f := range c.Funs {
		c.Funs[i].Body, c.Funs[i].From = all(f.Body), all(f.From)
	}
	return c
}

// roomyRun is r with room behind all of its lists.
func roomyRun(r api.Run) api.Run {
	r.Args, r.Sched, r.Out.Events = room(r.Args), room(r.Sched), room(r.Out.Events)
	return r
}

// wholeRun is r with all that lies in the room behind its lists.
func wholeRun(r api.Run) api.Run {
	r.Args, r.Sched, r.Out.Events = all(r.Args), all(r.Sched), all(r.Out.Events)
	return r
}

// spoilEvents changes all events of a list, also in the room behind it.
func spoilEvents(l []api.Event) {
	for i := range l[:cap(l)] {
		l[:cap(l)][i] = api.Event{Proc: mark, Kind: mark, N: mark}
	}
}

// Rules: arguments are not changed.
func TestArgumentsStay(t *testing.T) {
	r := rand.New(rand.NewSource(1101))
	var last api.Run
	for _, c := range someCodes(t, r, 500) {
		c = roomyCode(c)
		code := wholeCode(c)
		args, sched := room(anyArgs(r, c)), room(anySched(r))
		numbers, choices := all(args), all(sched)
		fuel := anyFuel(r)
		x := roomyRun(must(t, c, args, sched, fuel))
		before := wholeRun(x)
		run.Run(c, args[:len(args)/2], sched, fuel)
		run.Run(c, args, sched, -1)
		for _, f := range []int{fuel, fuel / 2, 4096, -1} {
			run.Replay(c, x, f)
		}
		run.Digest(x)
		for _, o := range []api.Outcome{x.Out, last.Out, {}} {
			run.Same(x.Out, o)
			run.Same(o, x.Out)
			run.First(x.Out, o)
			run.First(o, x.Out)
			run.Compare(x.Out, o)
			run.Compare(o, x.Out)
		}
		last = x
		if !slices.Equal(all(args), numbers) || !slices.Equal(all(sched), choices) {
			t.Fatalf("Rules: the arguments %v and the schedule %v have changed", args, sched)
		}
		if !reflect.DeepEqual(wholeRun(x), before) {
			t.Fatalf("Rules: the run %s has changed", show(x))
		}
		if !reflect.DeepEqual(wholeCode(c), code) {
			t.Fatalf("Rules: the code %v has changed", c)
		}
	}
}

// Rules: runs share no memory with arguments, with other runs, or within themselves.
func TestRunsShareNothing(t *testing.T) {
	r := rand.New(rand.NewSource(1102))
	for _, c := range someCodes(t, r, 500) {
		args, sched, fuel := room(anyArgs(r, c)), room(anySched(r)), anyFuel(r)
		x := must(t, c, args, sched, fuel)
		y := must(t, c, args, x.Sched, fuel)
		want := cloned(x)
		for _, change := range []func(){
			func() { spoil(args) },
			func() { spoil(sched) },
			func() { spoil(x.Args) },
			func() { spoil(x.Sched) },
			func() { spoilEvents(x.Out.Events) },
		} {
			change()
			if !identical(y, want) {
				t.Fatalf("Rules: a run shares memory: %s has become %s", show(want), show(y))
			}
		}
		spoil(y.Args)
		if !slices.Equal(y.Sched, want.Sched) || !slices.Equal(y.Out.Events, want.Out.Events) {
			t.Fatalf("Rules: a run shares memory with its arguments")
		}
		spoil(y.Sched)
		if !slices.Equal(y.Out.Events, want.Out.Events) {
			t.Fatalf("Rules: a run shares memory with its choices")
		}
		if again := must(t, c, want.Args, want.Sched, fuel); !identical(again, want) {
			t.Fatalf("Rules: equal calls return %s and %s", show(want), show(again))
		}
	}
}
