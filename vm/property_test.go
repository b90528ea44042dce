package vm_test

import (
	"math"
	"math/rand"
	"slices"
	"testing"

	"scoria/api"
	"scoria/code"
	"scoria/vm"
)

// enough is fuel for most runs of the tests.
const enough = 300

// someCodes has codes of programs, and other valid ones.
func someCodes(t *testing.T, r *rand.Rand, count int) []api.Code {
	t.Helper()
	var l []api.Code
	for range count {
		l = append(l, anyProgram(t, r), anyCode(r))
	}
	return l
}

// moment is a state in which a process can do a turn, with code for it.
type moment struct {
	c api.Code
	s api.State
}

// walk lets processes do turns at random, and calls visit for each state before which the fuel was not used up.
func walk(r *rand.Rand, c api.Code, most int, visit func(m moment)) {
	s, _, e := vm.New(c, anyArgs(r, c), enough)
	for range most {
		if e != api.OK {
			return
		}
		visit(moment{c, s})
		ready := vm.Ready(c, s)
		if len(ready) == 0 {
			return
		}
		s, _, e = vm.Turn(c, s, ready[r.Intn(len(ready))], enough)
	}
}

// P10.1 to P10.5: random codes, arguments, schedules and fuels.
func TestRandomCodes(t *testing.T) {
	r := rand.New(rand.NewSource(101))
	clear(seen)
	for _, c := range someCodes(t, r, 2500) {
		for range 2 {
			args := anyArgs(r, c)
			s, _ := expectPlainNew(t, c, args, r.Intn(30)-1)
			expectPlainState(t, c, s)
			expectPlainNew(t, c, append(args, r.Intn(16)-8), r.Intn(30)-1)
			if len(args) > 0 {
				args[r.Intn(len(args))] = []int{-9, 8, 16}[r.Intn(3)]
				expectPlainNew(t, c, args, r.Intn(30)-1)
			}
		}
		walk(r, c, 20, func(m moment) {
			expectPlainState(t, c, m.s)
			for proc := -1; proc <= len(m.s.Procs); proc++ {
				expectPlainTurn(t, c, m.s, proc, enough)
				s, _, e := expectPlainTurn(t, c, m.s, proc, m.s.Steps+r.Intn(12)-1)
				if e != api.ErrArg {
					expectPlainState(t, c, s)
				}
			}
		})
	}
	for _, name := range slices.Concat(ops, []string{
		"caught in a frame below", "caught in the same frame", "caught by one of several handlers", "caught at a height", "not caught", "a process was started",
		"thrown by elem", "thrown by put", "thrown by op", "thrown by call", "thrown by throw", "thrown by spawn", "not of another word", "false of another word",
	}) {
		if seen[name] < 100 {
			t.Errorf("only %d times: %s", seen[name], name)
		}
	}
}

// expectFuel is about New or Turn with each fuel, for a state with some Steps before.
func expectFuel(t *testing.T, r *rand.Rand, before int, call func(fuel int) (api.State, []api.Event, api.Errno)) {
	t.Helper()
	s, events, e := call(enough)
	if e == api.ErrFuel {
		if s.Steps != enough {
			t.Fatalf("P10.6: %d Steps", s.Steps)
		}
		return
	}
	if e != api.OK || s.Steps < before {
		t.Fatalf("P10.6: the error %d and %d Steps", e, s.Steps)
	}
	for _, fuel := range []int{s.Steps, s.Steps + 1, s.Steps + r.Intn(enough), api.MaxFuel, math.MaxInt} {
		again, list, e := call(fuel)
		if e != api.OK || !identical(again, s) || !slices.Equal(list, events) {
			t.Fatalf("P10.6: %s, %s, %d and not %s, %s with the fuel %d", show(again), told(list), e, show(s), told(events), fuel)
		}
	}
	for fuel := before; fuel < s.Steps; fuel++ {
		less, list, e := call(fuel)
		if e != api.ErrFuel || less.Steps != fuel {
			t.Fatalf("P10.6: %s, %d with the fuel %d", show(less), e, fuel)
		}
		// The visible instruction is the first one: with fuel for it, there is its event.
		if fuel == before && len(list) > 0 || fuel > before && !slices.Equal(list, events) {
			t.Fatalf("P10.3: the events %s with the fuel %d, and %s with more", told(list), fuel, told(events))
		}
	}
}

// P10.6: fuel that is enough, and fuel that is not.
func TestFuel(t *testing.T) {
	r := rand.New(rand.NewSource(106))
	for _, c := range someCodes(t, r, 800) {
		args := anyArgs(r, c)
		expectFuel(t, r, 0, func(fuel int) (api.State, []api.Event, api.Errno) { return vm.New(c, args, fuel) })
		walk(r, c, 12, func(m moment) {
			for _, proc := range vm.Ready(c, m.s) {
				expectFuel(t, r, m.s.Steps, func(fuel int) (api.State, []api.Event, api.Errno) { return vm.Turn(c, m.s, proc, fuel) })
			}
		})
	}
}

// areWords reports whether all numbers are words.
func areWords(l []int) bool {
	return !slices.ContainsFunc(l, func(n int) bool { return n < -8 || n > 7 })
}

// expectStacks is about the frames of a state.
func expectStacks(t *testing.T, c api.Code, heights [][]int, s api.State) {
	t.Helper()
	for _, p := range s.Procs {
		for i, f := range p.Frames {
			height := heights[f.Fun][f.At]
			if i < len(p.Frames)-1 {
				height--
			}
			if len(f.Words) != c.Funs[f.Fun].Words || !areWords(f.Words) || !areWords(f.Stack) || len(f.Stack) != height {
				t.Fatalf("P10.7: %s for %v with the heights %v", show(s), c, heights)
			}
		}
	}
	for _, words := range s.Chans {
		if len(words) > 2 || !areWords(words) {
			t.Fatalf("P10.3: the channels of %s", show(s))
		}
	}
	if len(s.Chans) != c.Chans {
		t.Fatalf("P10.1: the channels of %s", show(s))
	}
}

// P10.7: words and stacks of all states, also of those for which the fuel was used up.
func TestStacks(t *testing.T) {
	r := rand.New(rand.NewSource(107))
	for _, c := range someCodes(t, r, 2000) {
		var heights [][]int
		for i := range c.Funs {
			heights = append(heights, code.Heights(c, i))
		}
		for fuel := range 12 {
			s, _, e := vm.New(c, anyArgs(r, c), fuel*fuel)
			if e == api.ErrArg {
				t.Fatalf("P10.1: the error %d", e)
			}
			expectStacks(t, c, heights, s)
		}
		walk(r, c, 20, func(m moment) {
			expectStacks(t, c, heights, m.s)
			for _, proc := range vm.Ready(c, m.s) {
				s, _, _ := vm.Turn(c, m.s, proc, m.s.Steps+r.Intn(9))
				expectStacks(t, c, heights, s)
			}
		})
	}
}

// uses is the channel that the next turn of a process uses; -1, if it uses none.
func uses(m moment, proc int) int {
	x := nextOf(m.c, m.s, proc)
	if x.Op == api.ISend || x.Op == api.IRecv {
		return x.A
	}
	return -1
}

// P10.8, P10.9: two turns in both orders.
func TestPrivate(t *testing.T) {
	r := rand.New(rand.NewSource(108))
	tried := map[string]int{}
	try := func(m moment, p, q int) {
		x, y := nextOf(m.c, m.s, p).Op, nextOf(m.c, m.s, q).Op
		if uses(m, p) >= 0 && uses(m, p) == uses(m, q) || x == api.ISpawn && y == api.ISpawn {
			return
		}
		a, first, e1 := vm.Turn(m.c, m.s, p, enough)
		b, second, e2 := vm.Turn(m.c, m.s, q, enough)
		if e1 != api.OK || e2 != api.OK {
			return
		}
		a, after, e1 := vm.Turn(m.c, a, q, 2*enough)
		b, last, e2 := vm.Turn(m.c, b, p, 2*enough)
		if e1 != api.OK || e2 != api.OK || !vm.Same(a, b) || !slices.Equal(first, last) || !slices.Equal(second, after) {
			t.Fatalf("P10.8: %s, %s, %s, %d and %s, %s, %s, %d for the processes %d and %d of %s", show(a), told(first), told(after), e1, show(b), told(second), told(last), e2, p, q, show(m.s))
		}
		if vm.Digest(a) != vm.Digest(b) {
			t.Fatalf("P10.9: the digests of %s and %s", show(a), show(b))
		}
		tried[ops[x]]++
		tried[ops[y]]++
	}
	for _, c := range someCodes(t, r, 3000) {
		walk(r, c, 25, func(m moment) {
			ready := vm.Ready(c, m.s)
			for i, p := range ready {
				for _, q := range ready[:i] {
					try(m, p, q)
				}
			}
		})
	}
	for _, op := range []int{api.IReturn, api.IThrow, api.IOp, api.ISend, api.IRecv, api.ISpawn, api.IOut} {
		if tried[ops[op]] < 20 {
			t.Errorf("P10.8: only %d turns with %s", tried[ops[op]], ops[op])
		}
	}
}

// P10.9: the events of a turn, and the digests of equal states.
func TestEvents(t *testing.T) {
	r := rand.New(rand.NewSource(109))
	told := map[int]int{}
	for _, c := range someCodes(t, r, 2000) {
		states := map[api.Digest]api.State{}
		walk(r, c, 20, func(m moment) {
			for _, proc := range vm.Ready(c, m.s) {
				s, events, _ := vm.Turn(c, m.s, proc, m.s.Steps+r.Intn(40))
				if len(events) > 1 {
					t.Fatalf("P10.9: the events %v", events)
				}
				for _, x := range events {
					if x.Proc != proc || x.N < -8 || x.N > 7 {
						t.Fatalf("P10.9: the event %v of the process %d", x, proc)
					}
					told[x.Kind]++
				}
				d := vm.Digest(s)
				if before, ok := states[d]; ok && !vm.Same(before, s) {
					t.Fatalf("P10.9: the digests of %s and %s", show(before), show(s))
				}
				states[d] = s
				other := cloned(s)
				other.Steps += r.Intn(5)
				if vm.Digest(other) != d || !vm.Same(other, s) {
					t.Fatalf("P10.9: Steps in the digest of %s", show(s))
				}
			}
		})
	}
	if told[api.EvOut] < 100 || told[api.EvEnd] < 100 || told[api.EvFault] < 100 {
		t.Errorf("P10.9: events %v", told)
	}
}
