package run_test

import (
	"math/rand"
	"slices"
	"testing"

	"scoria/api"
	"scoria/code"
	"scoria/run"
)

// someCodes has codes of programs, and other valid ones.
func someCodes(t *testing.T, r *rand.Rand, pairs int) []api.Code {
	t.Helper()
	var l []api.Code
	for range pairs {
		l = append(l, anyProgram(t, r), anyCode(r))
	}
	return l
}

// anySched is a schedule; many of its elements are processes.
func anySched(r *rand.Rand) []int {
	var l []int
	for range []int{0, r.Intn(10), r.Intn(50), r.Intn(500)}[r.Intn(4)] {
		n := r.Intn(4)
		switch r.Intn(20) {
		case 0:
			n = -1 - r.Intn(9)
		case 1:
			n = 4 + r.Intn(300)
		}
		l = append(l, n)
	}
	return l
}

// anyFuel is a fuel, which often is small.
func anyFuel(r *rand.Rand) int {
	return []int{r.Intn(20), r.Intn(100), r.Intn(400), r.Intn(4097), 4096}[r.Intn(5)]
}

// P11.1, P11.4: random codes, arguments, schedules and fuels.
func TestRandomRuns(t *testing.T) {
	r := rand.New(rand.NewSource(111))
	clear(seen)
	for _, c := range someCodes(t, r, 6000) {
		for range 3 {
			x, e := expectPlainRun(t, c, anyArgs(r, c), anySched(r), anyFuel(r))
			if e != api.OK {
				t.Fatalf("P11.1: the error %d for %v", e, c)
			}
			count(x.Out.End == api.EndDone, "done")
			count(x.Out.End == api.EndStuck, "stuck")
			if run.Digest(x) != plainDigest(x) {
				t.Fatalf("P11.4: the digest of %s", show(x))
			}
		}
	}
	for _, name := range []string{
		"done", "stuck", "256 turns", "fuel used up in vm.New", "fuel used up in a turn", "fuel used up at the end of a turn", "fuel used up after an event",
		"beyond the schedule", "a longer schedule", "not the first one", "negative", "too large", "of a process that has ended", "of a process that is not ready",
	} {
		if seen[name] < 50 {
			t.Errorf("only %d times: %s", seen[name], name)
		}
	}
}

// P11.1: all short schedules and small fuels of a few codes.
func TestAllShortSchedules(t *testing.T) {
	for _, c := range []api.Code{
		made(t, "program 1 fun 0 () { spawn f1() out recv c0 return 0 } fun 0 () { out 1 send c0 2 return 3 }"),
		made(t, "program 0 fun 0 () { spawn f1(1) spawn f1(2) return 0 } fun 1 (int) { out v0 return v0 }"),
		made(t, "program 1 fun 0 () { spawn f1() send c0 1 send c0 2 send c0 3 return 0 } fun 0 () { throw (recv c0 / 0) }"),
	} {
		var sched []int
		var visit func()
		visit = func() {
			r, _ := expectPlainRun(t, c, nil, sched, 4096)
			for fuel := 0; fuel <= r.Steps && len(sched) == 3; fuel++ {
				expectPlainRun(t, c, nil, sched, fuel)
			}
			for n := -1; n <= 3 && len(sched) < 6; n++ {
				sched = append(sched, n)
				visit()
				sched = sched[:len(sched)-1]
			}
		}
		visit()
	}
}

// P11.5: what Run returns is replayed, and its Sched leads to the same run.
func TestReplayed(t *testing.T) {
	r := rand.New(rand.NewSource(115))
	for _, c := range someCodes(t, r, 1500) {
		args, sched, fuel := anyArgs(r, c), anySched(r), anyFuel(r)
		x := must(t, c, args, sched, fuel)
		if !run.Replay(c, x, fuel) {
			t.Fatalf("P11.5: %s is not replayed for %v with the fuel %d", show(x), c, fuel)
		}
		for _, more := range [][]int{nil, {0}, {3, 2, 1, 0}, {-1}, {7}, anySched(r)} {
			longer := slices.Concat(x.Sched, more)
			if y := must(t, c, args, longer, fuel); !identical(x, y) {
				t.Fatalf("P11.5: %s and not %s for %v, the schedule %v and the fuel %d", show(y), show(x), c, longer, fuel)
			}
		}
	}
}

// P11.6: Steps, and what more fuel leads to.
func TestMoreFuel(t *testing.T) {
	r := rand.New(rand.NewSource(116))
	ended, others := 0, 0
	for _, c := range someCodes(t, r, 1500) {
		args, sched, fuel := anyArgs(r, c), anySched(r), anyFuel(r)
		x := must(t, c, args, sched, fuel)
		if x.Steps > fuel {
			t.Fatalf("P11.6: %d Steps with the fuel %d for %v", x.Steps, fuel, c)
		}
		for range 3 {
			more := fuel + r.Intn(4097-fuel)
			y := must(t, c, args, sched, more)
			if x.Out.End != api.EndFuel {
				ended++
				if !identical(x, y) {
					t.Fatalf("P11.6: %s with the fuel %d, and %s with %d for %v", show(x), fuel, show(y), more, c)
				}
				continue
			}
			others++
			if !begins(y.Out.Events, x.Out.Events) || !begins(y.Sched, x.Sched) {
				t.Fatalf("P11.6: %s with the fuel %d, and %s with %d for %v", show(x), fuel, show(y), more, c)
			}
		}
	}
	if ended < 1000 || others < 1000 {
		t.Errorf("only %d runs have ended, and %d others", ended, others)
	}
}

// begins reports whether a list begins with another one.
func begins[E comparable](l, beginning []E) bool {
	return len(l) >= len(beginning) && slices.Equal(l[:len(beginning)], beginning)
}

// alone is code without ISend, IRecv and ISpawn: ILoad takes the place of IRecv, IDrop that of ISend and ISpawn, as often as words are popped.
func alone(c api.Code) (api.Code, bool) {
	d := api.Code{Chans: c.Chans}
	for _, f := range c.Funs {
		f.Body = slices.Clone(f.Body)
		for i, x := range f.Body {
			switch {
			case x.Op == api.IRecv:
				f.Body[i] = api.Instr{Op: api.IPush, A: x.A}
			case x.Op == api.ISend, x.Op == api.ISpawn && x.B == 1:
				f.Body[i] = api.Instr{Op: api.IDrop}
			case x.Op == api.ISpawn:
				return d, false
			}
		}
		d.Funs = append(d.Funs, f)
	}
	return d, code.Valid(d)
}

// P11.7: code of one process.
func TestOneProcess(t *testing.T) {
	r := rand.New(rand.NewSource(117))
	turns, codes := 0, 0
	for _, c := range someCodes(t, r, 4000) {
		c, ok := alone(c)
		if !ok {
			continue
		}
		codes++
		args, fuel := anyArgs(r, c), anyFuel(r)
		x := must(t, c, args, nil, fuel)
		turns += len(x.Sched)
		if slices.ContainsFunc(x.Sched, func(n int) bool { return n != 0 }) {
			t.Fatalf("P11.7: the choices %v for %v", x.Sched, c)
		}
		if x.Out.End == api.EndStuck {
			t.Fatalf("P11.7: stuck: %v", c)
		}
		for range 4 {
			sched := anySched(r)
			if y := must(t, c, args, sched, fuel); !identical(x, y) {
				t.Fatalf("P11.7: %s, and %s with the schedule %v for %v", show(x), show(y), sched, c)
			}
		}
	}
	if turns < 2000 || codes < 2000 {
		t.Errorf("only %d turns of %d codes", turns, codes)
	}
}

// P11.8: outcomes of runs.
func TestOutcomesOfRuns(t *testing.T) {
	r := rand.New(rand.NewSource(118))
	same, others := 0, 0
	for _, c := range someCodes(t, r, 500) {
		args := anyArgs(r, c)
		var l []api.Outcome
		for range 6 {
			l = append(l, must(t, c, args, anySched(r), anyFuel(r)).Out)
		}
		for _, a := range l {
			for _, b := range l {
				if expectPlainOrder(t, a, b) == 0 {
					same++
				} else {
					others++
				}
				if run.Compare(a, b) != -run.Compare(b, a) || run.First(a, b) != run.First(b, a) {
					t.Fatalf("P11.8: Compare or First in both orders for %v and %v", a, b)
				}
			}
		}
	}
	if same < 5000 || others < 5000 {
		t.Errorf("only %d pairs are the same, and %d are not", same, others)
	}
}
