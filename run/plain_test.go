package run_test

import (
	"crypto/sha256"
	"slices"
	"testing"

	"scoria/api"
	"scoria/run"
	"scoria/vm"
	"scoria/wire"
)

// seen counts what happened in runs.
var seen = map[string]int{}

// count counts something that is so.
func count(so bool, name string) {
	if so {
		seen[name]++
	}
}

// plainChoice is the process that has to be chosen for a turn in a state.
func plainChoice(c api.Code, s api.State, sched []int, turn int) int {
	ready := vm.Ready(c, s)
	if turn >= len(sched) {
		count(true, "beyond the schedule")
		return ready[0]
	}
	want := sched[turn]
	for _, proc := range ready {
		if proc == want {
			count(proc != ready[0], "not the first one")
			return proc
		}
	}
	count(want < 0, "negative")
	count(want >= len(s.Procs), "too large")
	if want >= 0 && want < len(s.Procs) {
		ended := len(s.Procs[want].Frames) == 0
		count(ended, "of a process that has ended")
		count(!ended, "of a process that is not ready")
	}
	return ready[0]
}

// plainRun is what Run has to return.
func plainRun(c api.Code, args, sched []int, fuel int) (api.Run, api.Errno) {
	if fuel < 0 || fuel > 4096 {
		return api.Run{}, api.ErrRange
	}
	s, _, e := vm.New(c, args, fuel)
	if e == api.ErrArg {
		return api.Run{}, api.ErrArg
	}
	r := api.Run{Args: append([]int(nil), args...)}
	count(e == api.ErrFuel, "fuel used up in vm.New")
	for turn := 0; ; turn++ {
		if e == api.ErrFuel {
			r.Out.End, r.Steps = api.EndFuel, fuel
			return r, api.OK
		}
		r.Out.End, r.Steps = vm.Ended(c, s), s.Steps
		if r.Out.End >= 0 {
			count(turn < len(sched), "a longer schedule")
			return r, api.OK
		}
		if turn == 256 {
			r.Out.End = api.EndFuel
			count(true, "256 turns")
			return r, api.OK
		}
		proc := plainChoice(c, s, sched, turn)
		before := s.Steps
		var events []api.Event
		s, events, e = vm.Turn(c, s, proc, fuel)
		r.Sched = append(r.Sched, proc)
		r.Out.Events = append(r.Out.Events, events...)
		count(e == api.ErrFuel && before == fuel, "fuel used up at the end of a turn")
		count(e == api.ErrFuel && before < fuel, "fuel used up in a turn")
		count(e == api.ErrFuel && len(events) > 0, "fuel used up after an event")
	}
}

// expectPlainRun compares Run with what it has to return.
func expectPlainRun(t *testing.T, c api.Code, args, sched []int, fuel int) (api.Run, api.Errno) {
	t.Helper()
	want, wrong := plainRun(c, args, sched, fuel)
	got, e := run.Run(c, args, sched, fuel)
	if e != wrong || !identical(got, want) {
		t.Fatalf("P11.1: %s, %d and not %s, %d for %v, the arguments %v, the schedule %v and the fuel %d", show(got), e, show(want), wrong, c, args, sched, fuel)
	}
	return got, e
}

// order is how two numbers are ordered.
func order(a, b int) int {
	switch {
	case a < b:
		return -1
	case a > b:
		return 1
	}
	return 0
}

// plainCompare is what Compare has to return.
func plainCompare(a, b api.Outcome) int {
	for i, x := range a.Events {
		if i == len(b.Events) {
			return 1
		}
		y := b.Events[i]
		for _, o := range []int{order(x.Proc, y.Proc), order(x.Kind, y.Kind), order(x.N, y.N)} {
			if o != 0 {
				return o
			}
		}
	}
	if len(a.Events) < len(b.Events) {
		return -1
	}
	return order(a.End, b.End)
}

// plainFirst is what First has to return.
func plainFirst(a, b api.Outcome) int {
	for i := 0; ; i++ {
		if i == len(a.Events) && i == len(b.Events) {
			if a.End == b.End {
				return -1
			}
			return i
		}
		if i == len(a.Events) || i == len(b.Events) || a.Events[i] != b.Events[i] {
			return i
		}
	}
}

// expectPlainOrder compares Same, First and Compare with what they have to return, and returns how the outcomes are ordered.
func expectPlainOrder(t *testing.T, a, b api.Outcome) int {
	t.Helper()
	want := plainCompare(a, b)
	if got := run.Compare(a, b); got != want {
		t.Fatalf("P11.3: Compare is %d and not %d for %v and %v", got, want, a, b)
	}
	if got := run.Same(a, b); got != (want == 0) {
		t.Fatalf("P11.3: Same is %v for %v and %v", got, a, b)
	}
	if got := run.First(a, b); got != plainFirst(a, b) {
		t.Fatalf("P11.3: First is %d and not %d for %v and %v", got, plainFirst(a, b), a, b)
	}
	return want
}

// plainDigest is the digest of a run.
func plainDigest(r api.Run) api.Digest {
	list := func(l ...int) []byte {
		b := wire.Int(len(l))
		for _, n := range l {
			b = append(b, wire.Int(n)...)
		}
		return b
	}
	var events []int
	for _, x := range r.Out.Events {
		events = append(append(append(events, x.Proc), x.Kind), x.N)
	}
	message := []byte{4}
	for _, part := range [][]byte{list(r.Args...), list(r.Sched...), list(events...), list(r.Out.End, r.Steps)} {
		message = slices.Concat(message, wire.Int(len(part)), part)
	}
	h := sha256.Sum256(message)
	return api.Digest(h[:16])
}
