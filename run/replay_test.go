package run_test

import (
	"math"
	"math/rand"
	"slices"
	"testing"

	"scoria/api"
	"scoria/run"
)

// talk is a program of two processes, in which everything can be observed: the argument, and in which order there were turns. The run with 3, as it is changed below, has 16 Steps.
const talk = "program 1 fun 1 (int) { spawn f1(v0) out v0 out recv c0 return 0 } fun 1 (int) { out v0 send c0 2 throw (v0 - 4) }"

// changes are ways to change a run, so that it is none of talk any more.
func changes() map[string]func(r *api.Run) {
	list := map[string]func(r *api.Run){
		"another argument":     func(r *api.Run) { r.Args[0] = 2 },
		"an argument more":     func(r *api.Run) { r.Args = append(r.Args, 0) },
		"an argument less":     func(r *api.Run) { r.Args = nil },
		"no word":              func(r *api.Run) { r.Args[0] = 3 + 16 },
		"a choice more":        func(r *api.Run) { r.Sched = append(r.Sched, 0) },
		"a first choice more":  func(r *api.Run) { r.Sched = append([]int{0}, r.Sched...) },
		"a choice less":        func(r *api.Run) { r.Sched = r.Sched[:len(r.Sched)-1] },
		"a first choice less":  func(r *api.Run) { r.Sched = r.Sched[1:] },
		"no choices":           func(r *api.Run) { r.Sched = nil },
		"an event more":        func(r *api.Run) { r.Out.Events = append(r.Out.Events, api.Event{}) },
		"the last event twice": func(r *api.Run) { r.Out.Events = append(r.Out.Events, r.Out.Events[len(r.Out.Events)-1]) },
		"an event less":        func(r *api.Run) { r.Out.Events = r.Out.Events[:len(r.Out.Events)-1] },
		"a first event less":   func(r *api.Run) { r.Out.Events = r.Out.Events[1:] },
		"no events":            func(r *api.Run) { r.Out.Events = nil },
		"other order":          func(r *api.Run) { slices.Reverse(r.Out.Events) },
		"stuck":                func(r *api.Run) { r.Out.End = api.EndStuck },
		"no fuel":              func(r *api.Run) { r.Out.End = api.EndFuel },
		"no end":               func(r *api.Run) { r.Out.End = -1 },
		"any end":              func(r *api.Run) { r.Out.End = math.MaxInt },
		"a step more":          func(r *api.Run) { r.Steps++ },
		"a step less":          func(r *api.Run) { r.Steps-- },
		"no steps":             func(r *api.Run) { r.Steps = 0 },
		"negative steps":       func(r *api.Run) { r.Steps = -r.Steps },
	}
	for _, i := range []int{0, 3, 6} {
		for _, n := range []int{-1, 2, 4, 1 << 32} {
			name := " at " + string(rune('0'+i))
			list["another choice"+name] = func(r *api.Run) { r.Sched[i] = n }
		}
	}
	for _, i := range []int{0, 2, 4} {
		name := " of the event " + string(rune('0'+i))
		list["Proc"+name] = func(r *api.Run) { r.Out.Events[i].Proc = 1 - r.Out.Events[i].Proc }
		list["Kind"+name] = func(r *api.Run) { r.Out.Events[i].Kind = 2 - r.Out.Events[i].Kind/2 }
		list["N"+name] = func(r *api.Run) { r.Out.Events[i].N += 16 }
	}
	return list
}

// P11.2: a run, and all of its fields changed.
func TestReplay(t *testing.T) {
	c := made(t, talk)
	r := must(t, c, []int{3}, []int{0, 1, 0, 1, 1}, 100)
	if want := "[3] [0 1 0 1 1 0 0 0] 1 out 3, 0 out 3, 1 fault -1, 0 out 2, 0 end 0; done 16"; show(r) != want {
		t.Fatalf("P11.1: the run is\n%s and not\n%s", show(r), want)
	}
	for _, fuel := range []int{16, 17, 100, 4095, 4096} {
		if !run.Replay(c, r, fuel) {
			t.Errorf("P11.2: not replayed with the fuel %d", fuel)
		}
	}
	for _, fuel := range []int{-1, 0, 1, 7, 14, 15, 4097, math.MinInt, math.MaxInt} {
		if run.Replay(c, r, fuel) {
			t.Errorf("P11.2: replayed with the fuel %d", fuel)
		}
	}
	for name, change := range changes() {
		x := cloned(r)
		change(&x)
		if run.Replay(c, x, 100) {
			t.Errorf("P11.2: %s: replayed", name)
		}
	}
	other := made(t, "program 1 fun 1 (int) { spawn f1(v0) out v0 out recv c0 return 0 } fun 1 (int) { out v0 send c0 2 throw (v0 - 3) }")
	if run.Replay(other, r, 100) {
		t.Errorf("P11.2: replayed with other code")
	}
}

// P11.2: what is no run, since Run returns an error, although it is equal to what is returned beside this error.
func TestReplayOfErrors(t *testing.T) {
	c := made(t, "program 0 fun 1 (int) { return v0 }")
	none := made(t, "program 0 fun 0 () { return 1 }")
	stuck := made(t, "program 1 fun 0 () { return recv c0 }")
	for _, x := range []struct {
		name string
		c    api.Code
		r    api.Run
		fuel int
		want bool
	}{
		{"no argument", c, api.Run{}, 100, false},
		{"no argument, used up", c, api.Run{Out: api.Outcome{End: api.EndFuel}}, 0, false},
		{"an argument that is no word", c, api.Run{Args: []int{8}}, 100, false},
		{"a fuel of -1", none, api.Run{}, -1, false},
		{"a fuel of -1, used up", none, api.Run{Out: api.Outcome{End: api.EndFuel}, Steps: -1}, -1, false},
		{"a fuel of 4097", stuck, api.Run{Out: api.Outcome{End: api.EndStuck}}, 4097, false},
		{"a fuel of 4096", stuck, api.Run{Out: api.Outcome{End: api.EndStuck}}, 4096, true},
		{"the zero run of what goes on", none, api.Run{}, 0, false},
		{"used up", none, api.Run{Out: api.Outcome{End: api.EndFuel}}, 0, true},
		{"empty lists", none, api.Run{Args: []int{}, Sched: []int{}, Out: api.Outcome{Events: []api.Event{}, End: api.EndFuel}}, 0, true},
		{"empty and other lists", none, api.Run{Args: []int{}, Sched: []int{0}, Out: api.Outcome{Events: []api.Event{{Kind: api.EvEnd, N: 1}}}, Steps: 2}, 2, true},
	} {
		if run.Replay(x.c, x.r, x.fuel) != x.want {
			t.Errorf("P11.2: %s: not %v", x.name, x.want)
		}
	}
}

// P11.2: an argument that nothing depends on, and choices that lead to the same outcome.
func TestReplayOfOthers(t *testing.T) {
	unused := made(t, "program 0 fun 2 (int, int) { return v1 }")
	r := must(t, unused, []int{1, 2}, nil, 100)
	r.Args[0] = 5
	if !run.Replay(unused, r, 100) {
		t.Errorf("P11.2: another run is not replayed")
	}
	r.Args[0] = 8
	if run.Replay(unused, r, 100) {
		t.Errorf("P11.2: replayed with arguments that vm.New refuses")
	}
	silent := made(t, "program 2 fun 0 () { spawn f1() send c0 1 return 0 } fun 0 () { send c1 1 return 0 }")
	r = must(t, silent, nil, []int{0, 0, 1, 0, 1}, 100)
	r.Sched = []int{0, 1, 0, 0, 1}
	if !run.Replay(silent, r, 100) {
		t.Errorf("P11.2: another run is not replayed")
	}
	r.Sched = []int{0, 1, 0, 1, 0}
	if run.Replay(silent, r, 100) {
		t.Errorf("P11.2: replayed with choices that lead to another outcome")
	}
}

// P11.2: runs that end for other reasons.
func TestReplayOfEnds(t *testing.T) {
	loop := made(t, "program 0 fun 0 () { while true { out 1 } return 0 }")
	r := must(t, loop, nil, nil, 4096)
	if len(r.Sched) != 256 || !run.Replay(loop, r, 4096) || !run.Replay(loop, r, r.Steps) || run.Replay(loop, r, r.Steps-1) {
		t.Errorf("P11.2: 256 turns")
	}
	r.Sched = append(r.Sched, 0)
	if run.Replay(loop, r, 4096) {
		t.Errorf("P11.2: 257 choices are replayed")
	}
	for fuel := range 30 {
		r = must(t, loop, nil, nil, fuel)
		for other := -1; other <= 31; other++ {
			if run.Replay(loop, r, other) != (other == fuel) {
				t.Errorf("P11.2: a run that used up the fuel %d with the fuel %d", fuel, other)
			}
		}
	}
}

// P11.2: random runs, random changes.
func TestRandomReplays(t *testing.T) {
	r := rand.New(rand.NewSource(112))
	yes, no := 0, 0
	for _, c := range someCodes(t, r, 1500) {
		fuel := anyFuel(r)
		x := must(t, c, anyArgs(r, c), anySched(r), fuel)
		for range 4 {
			y := cloned(x)
			numbers := [][]int{y.Args, y.Sched, {y.Out.End}, {y.Steps}}
			list := numbers[r.Intn(len(numbers))]
			if len(list) > 0 {
				list[r.Intn(len(list))] = r.Intn(4)
			}
			y.Out.End, y.Steps = numbers[2][0], numbers[3][0]
			f := []int{fuel, fuel, fuel + 1, fuel - 1, x.Steps, 4096}[r.Intn(6)]
			again, e := plainRun(c, y.Args, y.Sched, f)
			want := e == api.OK && identical(again, y)
			if run.Replay(c, y, f) != want {
				t.Fatalf("P11.2: Replay is not %v for %v, %v and the fuel %d", want, c, y, f)
			}
			if want {
				yes++
			} else {
				no++
			}
		}
	}
	if yes < 1000 || no < 1000 {
		t.Errorf("only %d runs are replayed, and %d are not", yes, no)
	}
}
