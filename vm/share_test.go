package vm_test

import (
	"math/rand"
	"reflect"
	"slices"
	"testing"

	"scoria/api"
	"scoria/vm"
)

// mark is a number that no state of the tests has.
const mark = -777

// room is l with room behind it, where a careless append would leave its traces.
func room[E any](l []E) []E {
	return append(make([]E, 0, len(l)+3), l...)
}

// all is l with all that lies in the room behind it.
func all[E any](l []E) []E {
	return slices.Clone(l[:cap(l)])
}

// roomyCode is c with room behind all of its lists.
func roomyCode(c api.Code) api.Code {
	c.Funs = room(c.Funs)
	for i, f := range c.Funs {
		c.Funs[i].Body, c.Funs[i].From = room(f.Body), room(f.From)
	}
	return c
}

// wholeCode is c with all that lies in the room behind its lists.
func wholeCode(c api.Code) api.Code {
	c.Funs = all(c.Funs)
	for i, f := range c.Funs {
		c.Funs[i].Body, c.Funs[i].From = all(f.Body), all(f.From)
	}
	return c
}

// spoilCode changes all that can be changed of code.
func spoilCode(c api.Code) {
	for i, f := range c.Funs {
		for j := range f.Body {
			f.Body[j] = api.Instr{Op: mark, A: mark, B: mark}
		}
		for j := range f.From {
			f.From[j] = mark
		}
		c.Funs[i] = api.FunCode{Params: mark, Words: mark}
	}
}

// each returns s with lists that f has changed.
func each(s api.State, procs func([]api.Proc) []api.Proc, frames func([]api.Frame) []api.Frame, tries func([]api.Try) []api.Try, chans func([][]int) [][]int, words func([]int) []int) api.State {
	s.Procs = procs(s.Procs)
	for i, p := range s.Procs {
		s.Procs[i].Frames = frames(p.Frames)
		for j, f := range s.Procs[i].Frames {
			f.Words, f.Stack, f.Tries = words(f.Words), words(f.Stack), tries(f.Tries)
			s.Procs[i].Frames[j] = f
		}
	}
	s.Chans = chans(s.Chans)
	for i, l := range s.Chans {
		s.Chans[i] = words(l)
	}
	return s
}

// roomyState is s with room behind all of its lists.
func roomyState(s api.State) api.State {
	return each(s, room[api.Proc], room[api.Frame], room[api.Try], room[[]int], room[int])
}

// wholeState is s with all that lies in the room behind its lists.
func wholeState(s api.State) api.State {
	return each(s, all[api.Proc], all[api.Frame], all[api.Try], all[[]int], all[int])
}

// lists are functions that spoil each list of numbers and of handlers in a state, with the room behind it, and the room behind all other lists.
func lists(s api.State) []func() {
	var l []func()
	numbers := func(n []int) {
		l = append(l, func() {
			for i := range n[:cap(n)] {
				n[:cap(n)][i] = mark
			}
		})
	}
	for _, p := range s.Procs {
		for _, f := range p.Frames {
			numbers(f.Words)
			numbers(f.Stack)
			l = append(l, func() {
				for i := range f.Tries[:cap(f.Tries)] {
					f.Tries[:cap(f.Tries)][i] = api.Try{At: mark, Word: mark, Height: mark}
				}
			})
		}
	}
	for _, words := range s.Chans {
		numbers(words)
	}
	return append(l, func() {
		for _, p := range s.Procs {
			clear(p.Frames[len(p.Frames):cap(p.Frames)])
		}
		clear(s.Procs[len(s.Procs):cap(s.Procs)])
		clear(s.Chans[len(s.Chans):cap(s.Chans)])
	})
}

// spoilState changes all that can be changed of a state.
func spoilState(s api.State) {
	for _, spoil := range lists(s) {
		spoil()
	}
	for i, p := range s.Procs {
		for j := range p.Frames {
			p.Frames[j] = api.Frame{Fun: mark, At: mark}
		}
		s.Procs[i] = api.Proc{}
	}
	clear(s.Chans)
}

// expectApart expects that no two lists of a state share memory. It spoils the state.
func expectApart(t *testing.T, s api.State) {
	t.Helper()
	want := cloned(s)
	for _, spoil := range lists(s) {
		spoil()
		if changed(s, want) > 1 {
			t.Fatalf("Rules: lists of a state share memory: %s has become %s", show(want), show(s))
		}
		restore(s, want)
	}
}

// changed is how many lists of numbers and of handlers of two states differ.
func changed(s, want api.State) int {
	count := 0
	add := func(same bool) {
		if !same {
			count++
		}
	}
	for i, p := range s.Procs {
		for j, f := range p.Frames {
			g := want.Procs[i].Frames[j]
			add(f.Fun == g.Fun && f.At == g.At)
			add(slices.Equal(f.Words, g.Words))
			add(slices.Equal(f.Stack, g.Stack))
			add(slices.Equal(f.Tries, g.Tries))
		}
	}
	for i, words := range s.Chans {
		add(slices.Equal(words, want.Chans[i]))
	}
	return count
}

// restore lets the lists of a state be as they were.
func restore(s, want api.State) {
	for i, p := range s.Procs {
		for j, f := range p.Frames {
			g := want.Procs[i].Frames[j]
			copy(f.Words, g.Words)
			copy(f.Stack, g.Stack)
			copy(f.Tries, g.Tries)
		}
	}
	for i, words := range s.Chans {
		copy(words, want.Chans[i])
	}
}

// Rules: codes, arguments and states are not changed.
func TestArgumentsStay(t *testing.T) {
	r := rand.New(rand.NewSource(1001))
	for _, c := range someCodes(t, r, 400) {
		c = roomyCode(c)
		code := wholeCode(c)
		args := room(anyArgs(r, c))
		numbers := all(args)
		for _, fuel := range []int{0, r.Intn(20), enough} {
			vm.New(c, args, fuel)
		}
		vm.New(c, append(args, 3), 5)
		numbers[len(args)] = 3
		if !slices.Equal(all(args), numbers) {
			t.Fatalf("Rules: the arguments %v have changed", args)
		}
		walk(r, c, 10, func(m moment) {
			s := roomyState(m.s)
			before := wholeState(s)
			for proc := -1; proc <= len(s.Procs); proc++ {
				for _, fuel := range []int{0, s.Steps, s.Steps + r.Intn(20), enough} {
					vm.Turn(c, s, proc, fuel)
				}
			}
			vm.Ready(c, s)
			vm.Ended(c, s)
			vm.Same(s, s)
			vm.Same(s, m.s)
			vm.Same(m.s, s)
			vm.Digest(s)
			if !reflect.DeepEqual(wholeState(s), before) {
				t.Fatalf("Rules: the state %s has changed", show(s))
			}
		})
		if !reflect.DeepEqual(wholeCode(c), code) {
			t.Fatalf("Rules: the code %v has changed", c)
		}
	}
}

// expectOwn expects that two equal results share no memory with each other.
func expectOwn(t *testing.T, call func() (api.State, []api.Event, api.Errno)) {
	t.Helper()
	s, events, e := call()
	want, list := cloned(s), slices.Clone(events)
	again, more, wrong := call()
	if e != wrong || !identical(s, again) || !slices.Equal(events, more) {
		t.Fatalf("Rules: equal calls return %s and %s", show(s), show(again))
	}
	spoilState(again)
	for i := range more[:cap(more)] {
		more[:cap(more)][i] = api.Event{Proc: mark, Kind: mark, N: mark}
	}
	if !identical(s, want) || !slices.Equal(events, list) {
		t.Fatalf("Rules: results share memory: %s has become %s", show(want), show(s))
	}
	expectApart(t, s)
	if s, events, e = call(); e != wrong || !identical(s, want) || !slices.Equal(events, list) {
		t.Fatalf("Rules: a call returns %s and then %s", show(want), show(s))
	}
}

// Rules: results share no memory with arguments, with other results, or within themselves.
func TestResultsShareNothing(t *testing.T) {
	r := rand.New(rand.NewSource(1002))
	for _, c := range someCodes(t, r, 300) {
		args := anyArgs(r, c)
		for _, fuel := range []int{r.Intn(20), enough} {
			expectOwn(t, func() (api.State, []api.Event, api.Errno) { return vm.New(c, args, fuel) })
		}
		walk(r, c, 12, func(m moment) {
			ready := vm.Ready(c, m.s)
			for i := range ready[:cap(ready)] {
				ready[:cap(ready)][i] = mark
			}
			expectPlainState(t, c, m.s)
			for proc := range len(m.s.Procs) {
				for _, fuel := range []int{m.s.Steps, m.s.Steps + r.Intn(9), enough} {
					expectOwn(t, func() (api.State, []api.Event, api.Errno) { return vm.Turn(c, m.s, proc, fuel) })
				}
			}
		})
	}
}

// Rules: results stay as they are when arguments change afterwards.
func TestArgumentsAreNotKept(t *testing.T) {
	r := rand.New(rand.NewSource(1003))
	for _, c := range someCodes(t, r, 300) {
		d, args := roomyCode(c), room(anyArgs(r, c))
		s, _, _ := vm.New(d, args, enough)
		want := cloned(s)
		spoilCode(d)
		for i := range args[:cap(args)] {
			args[:cap(args)][i] = mark
		}
		if !identical(s, want) {
			t.Fatalf("Rules: the state shares memory with arguments: %s has become %s", show(want), show(s))
		}
		walk(r, c, 12, func(m moment) {
			for proc := range len(m.s.Procs) {
				before := roomyState(m.s)
				s, events, _ := vm.Turn(c, before, proc, m.s.Steps+r.Intn(20))
				want, list := cloned(s), slices.Clone(events)
				spoilState(before)
				if !identical(s, want) || !slices.Equal(events, list) {
					t.Fatalf("Rules: the state shares memory with the one before: %s has become %s", show(want), show(s))
				}
			}
		})
	}
}
