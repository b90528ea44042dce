package explore_test

import (
	"fmt"
	"math/rand"
	"slices"
	"strings"
	"testing"

	"scoria/api"
	"scoria/explore"
	"scoria/run"
)

// expectWitness compares Witness with what it has to return.
func expectWitness(t *testing.T, name string, c api.Code, args []int, o api.Outcome, most int, want []int, wrong api.Errno) {
	t.Helper()
	sched, e := explore.Witness(c, args, o, most)
	if e != wrong || !slices.Equal(sched, want) {
		t.Fatalf("P12.4: %s: the error %d and %v, and not %d and %v, for %v, %v, %v and most %d", name, e, sched, wrong, want, c, args, o, most)
	}
}

// P12.4: the schedules of the example of the chapter, and outcomes that no way has.
func TestWitnessByHand(t *testing.T) {
	c := both(t)
	l, e := explore.Outcomes(explored(t, c, nil, 10), 6)
	if e != api.OK || len(l) != 6 {
		t.Fatalf("P12.3: the error %d and %d outcomes", e, len(l))
	}
	for i, want := range [][]int{{0, 0, 0, 1, 1}, {0, 0, 1, 0, 1}, {0, 0, 1, 1, 0}, {0, 1, 0, 0, 1}, {0, 1, 0, 1, 0}, {0, 1, 1, 0, 0}} {
		expectWitness(t, "an outcome", c, nil, l[i], 10, want, api.OK)
		for _, most := range []int{0, -1, 1025} {
			expectWitness(t, "most", c, nil, l[i], most, nil, api.ErrArg)
		}
		for _, most := range []int{1, 2, 9} {
			expectWitness(t, "too few states", c, nil, l[i], most, nil, api.ErrLimit)
		}
		for _, args := range [][]int{{0}, {0, 0}, {99}} {
			expectWitness(t, "too many arguments", c, args, l[i], 10, nil, api.ErrArg)
		}
		for _, end := range []int{-1, api.EndStuck, api.EndFuel, 1 << 62} {
			expectWitness(t, "another end", c, nil, api.Outcome{Events: l[i].Events, End: end}, 10, nil, api.ErrNone)
		}
		for k := range 4 {
			expectWitness(t, "a beginning", c, nil, api.Outcome{Events: l[i].Events[:k]}, 10, nil, api.ErrNone)
			expectWitness(t, "a way that is not maximal", c, nil, api.Outcome{Events: l[i].Events[:k], End: -1}, 10, nil, api.ErrNone)
			expectWitness(t, "an end", c, nil, api.Outcome{Events: l[i].Events[4-k:]}, 10, nil, api.ErrNone)
		}
		expectWitness(t, "an event more", c, nil, api.Outcome{Events: append(slices.Clone(l[i].Events), ev(1))}, 10, nil, api.ErrNone)
		expectWitness(t, "all events again", c, nil, api.Outcome{Events: slices.Repeat(l[i].Events, 2)}, 10, nil, api.ErrNone)
	}
	stuck := codeOf(t, 1, "0 0: recv 0, return")
	expectWitness(t, "no turns", stuck, nil, api.Outcome{End: api.EndStuck}, 1, nil, api.OK)
	expectWitness(t, "no turns, another end", stuck, nil, api.Outcome{}, 1, nil, api.ErrNone)
	expectWitness(t, "no turns, an event", stuck, nil, api.Outcome{Events: evs(0), End: api.EndStuck}, 1, nil, api.ErrNone)
}

// P12.4: outcomes that several ways have, of which the first schedule is not always the first one that comes to mind.
func TestFirstWitness(t *testing.T) {
	// Whoever receives the word first shows it; then it sends it to the other one, which ends.
	one := made(t, "program 2 fun 0 () { spawn f1() send c0 3 out recv c0 send c0 0 return 0 } fun 0 () { out recv c0 send c0 0 return 0 }")
	// Both processes send, and receive what they sent: nothing of it can be observed.
	two := made(t, "program 2 fun 0 (int) { spawn f1() send c0 1 v0 = recv c0 return 0 } fun 0 (int) { send c1 1 v0 = recv c1 return 0 }")
	expectWitness(t, "process 0 ends first", two, nil, api.Outcome{Events: []api.Event{{Kind: api.EvEnd}, {Proc: 1, Kind: api.EvEnd}}}, 99, []int{0, 0, 0, 0, 1, 1, 1}, api.OK)
	expectWitness(t, "process 1 ends first", two, nil, api.Outcome{Events: []api.Event{{Proc: 1, Kind: api.EvEnd}, {Kind: api.EvEnd}}}, 99, []int{0, 0, 0, 1, 1, 1, 0}, api.OK)
	shown := []api.Event{{N: 3}, {Kind: api.EvEnd}, {Proc: 1}, {Proc: 1, Kind: api.EvEnd}}
	expectWitness(t, "process 0 receives first", one, nil, api.Outcome{Events: shown}, 99, []int{0, 0, 0, 0, 0, 0, 1, 1, 1, 1}, api.OK)
	shown = []api.Event{{Proc: 1, N: 3}, {Proc: 1, Kind: api.EvEnd}, {}, {Kind: api.EvEnd}}
	expectWitness(t, "process 1 receives first", one, nil, api.Outcome{Events: shown}, 99, []int{0, 0, 1, 1, 1, 0, 1, 0, 0, 0}, api.OK)
}

// P12.3, P12.4: an endless graph has no outcomes and no witnesses, also if some ways end.
func TestEndlessCode(t *testing.T) {
	c := made(t, "program 1 fun 0 (int) { spawn f1(0) spawn f1(1) v0 = recv c0 while (v0 == 1) { out v0 } return 0 } fun 1 (int) { send c0 v0 return 0 }")
	g := explored(t, c, nil, 1024)
	if !plainEndless(g) || !slices.Contains(g.Ends, api.EndDone) {
		t.Fatal("the graph has no circle, or no end")
	}
	expectOutcomes(t, "a way ends", g, 1024, api.ErrLimit)
	r, e := run.Run(c, nil, []int{0, 0, 1, 0}, 4096)
	if e != api.OK || r.Out.End != api.EndDone {
		t.Fatalf("P11.1: %v, %d", r, e)
	}
	for _, o := range []api.Outcome{r.Out, {}, {End: api.EndStuck}} {
		expectWitness(t, "a way ends", c, nil, o, 1024, nil, api.ErrLimit)
		expectWitness(t, "too few states", c, nil, o, 3, nil, api.ErrLimit)
		expectWitness(t, "too many arguments", c, []int{0}, o, 1024, nil, api.ErrArg)
	}
}

// P12.3, P12.4, P1: three processes, of which nothing can be observed but the order in which they end; far more ways than can be tried.
func TestManyWaysOfCode(t *testing.T) {
	fun := func(f int) string {
		return strings.Repeat(fmt.Sprintf("push 1, send %d, recv %d, drop, ", f, f), 4) + "push 0, return"
	}
	c := codeOf(t, 3, "0 0: spawn 1 0, spawn 2 0, "+fun(0), "0 0: "+fun(1), "0 0: "+fun(2))
	g := explored(t, c, nil, 1024)
	if len(g.States) < 9*9*9 {
		t.Fatalf("only %d states", len(g.States))
	}
	var want []api.Outcome
	for _, order := range [][]int{{0, 1, 2}, {0, 2, 1}, {1, 0, 2}, {1, 2, 0}, {2, 0, 1}, {2, 1, 0}} {
		var o api.Outcome
		for _, proc := range order {
			o.Events = append(o.Events, api.Event{Proc: proc, Kind: api.EvEnd})
		}
		want = append(want, o)
		// The first process that may do a turn does one: each does 9, but must not end before those that end earlier.
		sched, turns, ended := []int{0, 0}, [3]int{}, 0
		for len(sched) < 2+3*9 {
			for proc := range 3 {
				if turns[proc] < 8 || turns[proc] == 8 && ended < 3 && order[ended] == proc {
					turns[proc]++
					sched = append(sched, proc)
					if turns[proc] == 9 {
						ended++
					}
					break
				}
			}
		}
		expectWitness(t, fmt.Sprint(order), c, nil, o, 1024, sched, api.OK)
		expectWitness(t, fmt.Sprint(order), c, nil, api.Outcome{Events: o.Events, End: api.EndStuck}, 1024, nil, api.ErrNone)
		expectWitness(t, fmt.Sprint(order), c, nil, api.Outcome{Events: o.Events[:2]}, 1024, nil, api.ErrNone)
	}
	l, e := explore.Outcomes(g, 6)
	if e != api.OK || !sameOutcomes(l, want) {
		t.Errorf("P12.3: the error %d and %v", e, l)
	}
	expectOutcomes(t, "six outcomes", g, 5, api.ErrLimit)
}

// variants has outcomes that differ a little from one.
func variants(o api.Outcome) []api.Outcome {
	l := []api.Outcome{o, {}, {End: api.EndStuck}, {Events: o.Events, End: o.End + 1}, {Events: o.Events, End: o.End - 1}}
	for i := range o.Events {
		l = append(l, api.Outcome{Events: o.Events[:i], End: o.End}, api.Outcome{Events: o.Events[:i], End: -1}, api.Outcome{Events: slices.Delete(slices.Clone(o.Events), i, i+1), End: o.End})
		other := slices.Clone(o.Events)
		other[i].N++
		l = append(l, api.Outcome{Events: other, End: o.End})
		if i > 0 {
			other = slices.Clone(o.Events)
			other[i], other[i-1] = other[i-1], other[i]
			l = append(l, api.Outcome{Events: other, End: o.End})
		}
	}
	return append(l, api.Outcome{Events: append(slices.Clone(o.Events), ev(1)), End: o.End})
}

// P12.4: codes of random programs, and other random ones, with outcomes that ways have, and others.
func TestRandomWitnesses(t *testing.T) {
	r := rand.New(rand.NewSource(124))
	clear(seen)
	for _, c := range someCodes(t, r, 500) {
		args := anyArgs(r, c)
		g, wrong := plainAll(c, args, 30)
		endless := wrong == api.OK && plainEndless(g)
		if wrong != api.OK || endless {
			if endless {
				wrong = api.ErrLimit
			}
			expectWitness(t, "an error of All, or endless", c, args, api.Outcome{}, 30, nil, wrong)
			count(endless, "endless")
			continue
		}
		ways, few := plainWays(g, tooMany)
		if !few {
			continue
		}
		outcomes, _ := plainOutcomes(ways, tooMany)
		for len(outcomes) > 12 {
			outcomes = slices.Delete(outcomes, r.Intn(len(outcomes)), len(outcomes))
		}
		for _, o := range outcomes {
			for _, x := range variants(o) {
				want, wrong := plainWitness(ways, x)
				expectWitness(t, "a variant of an outcome", c, args, x, 30, want, wrong)
				count(wrong == api.ErrNone, "an outcome of no way")
				count(wrong == api.OK && len(ways) > len(outcomes), "an outcome of a way, of several ones")
			}
		}
	}
	expectSeen(t, 40, "endless")
	expectSeen(t, 400, "an outcome of no way", "an outcome of a way, of several ones")
}
