package run_test

import (
	"math"
	"math/rand"
	"slices"
	"testing"

	"scoria/api"
	"scoria/run"
)

// outcome is an outcome with an end, and with events, each of which is its Proc, Kind and N.
func outcome(end int, events ...[3]int) api.Outcome {
	o := api.Outcome{End: end}
	for _, x := range events {
		o.Events = append(o.Events, api.Event{Proc: x[0], Kind: x[1], N: x[2]})
	}
	return o
}

// P11.3, P11.8: outcomes in increasing order.
func TestOrder(t *testing.T) {
	a, b := [3]int{0, 0, 1}, [3]int{0, 1, 0}
	list := []api.Outcome{
		outcome(math.MinInt),
		outcome(-1),
		outcome(api.EndDone),
		outcome(api.EndStuck),
		outcome(api.EndFuel),
		outcome(math.MaxInt),
		outcome(api.EndFuel, [3]int{math.MinInt, 9, 9}),
		outcome(api.EndDone, [3]int{-1, 9, 9}, a, a),
		outcome(api.EndDone, [3]int{0, math.MinInt, 9}),
		outcome(api.EndFuel, [3]int{0, -1, 9}, a),
		outcome(api.EndFuel, [3]int{0, 0, math.MinInt}, b, b),
		outcome(api.EndFuel, [3]int{0, 0, -8}),
		outcome(api.EndDone, [3]int{0, 0, 0}),
		outcome(api.EndDone, [3]int{0, 0, 0}, [3]int{0, 0, -3}),
		outcome(api.EndFuel, [3]int{0, 0, 0}, a, b, b),
		outcome(api.EndDone, a),
		outcome(api.EndStuck, a),
		outcome(api.EndFuel, a),
		outcome(api.EndDone, a, a),
		outcome(api.EndFuel, a, a),
		outcome(api.EndDone, a, a, a),
		outcome(api.EndDone, a, b),
		outcome(api.EndDone, a, b, a),
		outcome(api.EndStuck, a, b, a),
		outcome(api.EndDone, a, [3]int{0, 1, 1}),
		outcome(api.EndDone, a, [3]int{1, 0, -8}),
		outcome(api.EndDone, [3]int{0, 0, math.MaxInt}),
		outcome(api.EndFuel, b),
		outcome(api.EndDone, b, a),
		outcome(api.EndFuel, [3]int{0, 2, -8}),
		outcome(api.EndDone, [3]int{0, math.MaxInt, math.MinInt}),
		outcome(api.EndDone, [3]int{1, 0, -8}),
		outcome(api.EndDone, [3]int{1, 0, 0}),
		outcome(api.EndDone, [3]int{2, 0, 0}),
		outcome(api.EndDone, [3]int{math.MaxInt, math.MinInt, math.MinInt}),
	}
	for i, x := range list {
		for j, y := range list {
			if got, want := run.Compare(x, y), order(i, j); got != want {
				t.Errorf("P11.3: Compare is %d and not %d for %v and %v", got, want, x, y)
			}
			if run.Same(x, y) != (i == j) {
				t.Errorf("P11.3: Same of %v and %v", x, y)
			}
			expectPlainOrder(t, x, y)
		}
	}
}

// P11.3: the first difference.
func TestFirst(t *testing.T) {
	a, b := [3]int{0, 0, 1}, [3]int{0, 1, 0}
	for _, x := range []struct {
		name string
		a, b api.Outcome
		want int
	}{
		{"no events", outcome(api.EndDone), outcome(api.EndDone), -1},
		{"no events, other ends", outcome(api.EndDone), outcome(api.EndStuck), 0},
		{"one has no events", outcome(api.EndDone), outcome(api.EndDone, a), 0},
		{"one has no events, other ends", outcome(api.EndFuel), outcome(api.EndDone, a, b), 0},
		{"equal", outcome(api.EndFuel, a, b, a), outcome(api.EndFuel, a, b, a), -1},
		{"other ends", outcome(api.EndFuel, a, b, a), outcome(api.EndDone, a, b, a), 3},
		{"the number of events", outcome(api.EndFuel, a, b, a), outcome(api.EndFuel, a, b), 2},
		{"the number of events and the ends", outcome(api.EndFuel, a, b, a), outcome(api.EndDone, a), 1},
		{"Proc of the first event", outcome(0, a, b, a), outcome(0, [3]int{1, 0, 1}, b, a), 0},
		{"Kind of the first event", outcome(0, a, b, a), outcome(0, [3]int{0, 2, 1}, b, a), 0},
		{"N of the first event", outcome(0, a, b, a), outcome(0, [3]int{0, 0, -1}, b, a), 0},
		{"Proc of the second event", outcome(0, a, b, a), outcome(0, a, [3]int{-1, 1, 0}, a), 1},
		{"Kind of the second event", outcome(0, a, b, a), outcome(0, a, [3]int{0, 0, 0}, a), 1},
		{"N of the second event", outcome(0, a, b, a), outcome(0, a, [3]int{0, 1, 1 << 32}, a), 1},
		{"Proc of the last event", outcome(0, a, b, a), outcome(0, a, b, [3]int{3, 0, 1}), 2},
		{"Kind of the last event", outcome(0, a, b, a), outcome(0, a, b, [3]int{0, -1, 1}), 2},
		{"N of the last event", outcome(0, a, b, a), outcome(0, a, b, [3]int{0, 0, math.MinInt}), 2},
		{"the last event and the end", outcome(0, a, b, a), outcome(1, a, b, b), 2},
		{"several events", outcome(0, a, b, a, a), outcome(0, a, a, b, b), 1},
		{"an event is missing", outcome(0, a, b, a), outcome(0, b, a), 0},
	} {
		if got := run.First(x.a, x.b); got != x.want {
			t.Errorf("P11.3: %s: First is %d and not %d", x.name, got, x.want)
		}
		if got := run.First(x.b, x.a); got != x.want {
			t.Errorf("P11.8: %s: First is %d and not %d in the other order", x.name, got, x.want)
		}
		if expectPlainOrder(t, x.a, x.b) != -expectPlainOrder(t, x.b, x.a) {
			t.Errorf("P11.8: %s: Compare of both orders", x.name)
		}
	}
}

// P11.3, Rules: nil and empty lists are the same.
func TestNoEvents(t *testing.T) {
	for end := -1; end < 4; end++ {
		a, b := api.Outcome{End: end}, api.Outcome{Events: []api.Event{}, End: end}
		if !run.Same(a, b) || !run.Same(b, a) || run.First(a, b) != -1 || run.First(b, a) != -1 || run.Compare(a, b) != 0 || run.Compare(b, a) != 0 {
			t.Errorf("P11.3: %v and %v are not the same", a, b)
		}
	}
}

// smallOutcomes are all outcomes of up to so many events out of a few ones.
func smallOutcomes(most int) []api.Outcome {
	events := [][3]int{{0, 0, 0}, {0, 0, 1}, {0, 1, 0}, {1, 0, 0}, {-1, 2, 5}}
	lists := [][][3]int{nil}
	for i := 0; i < len(lists); i++ {
		if len(lists[i]) < most {
			for _, x := range events {
				lists = append(lists, append(slices.Clone(lists[i]), x))
			}
		}
	}
	var l []api.Outcome
	for _, events := range lists {
		for end := range 3 {
			l = append(l, outcome(end, events...))
		}
	}
	return l
}

// P11.3, P11.8: all pairs of small outcomes.
func TestAllPairs(t *testing.T) {
	list := smallOutcomes(3)
	for _, a := range list {
		for _, b := range list {
			o := expectPlainOrder(t, a, b)
			if o != -run.Compare(b, a) {
				t.Fatalf("P11.8: Compare of %v and %v in both orders", a, b)
			}
			first := run.First(a, b)
			if first != run.First(b, a) || (first == -1) != (o == 0) {
				t.Fatalf("P11.8: First is %d for %v and %v", first, a, b)
			}
			if first > 0 && !slices.Equal(a.Events[:first], b.Events[:first]) {
				t.Fatalf("P11.8: the events before %d differ in %v and %v", first, a, b)
			}
		}
	}
}

// P11.8: all triples of smaller outcomes.
func TestTransitive(t *testing.T) {
	list := smallOutcomes(2)
	for _, a := range list {
		for _, b := range list {
			o := run.Compare(a, b)
			for _, c := range list {
				if p := run.Compare(b, c); o <= 0 && p <= 0 && run.Compare(a, c) != min(o, p) {
					t.Fatalf("P11.8: Compare is not transitive for %v, %v and %v", a, b, c)
				}
			}
		}
	}
}

// anyOutcome is an outcome of any numbers.
func anyOutcome(r *rand.Rand) api.Outcome {
	numbers := []int{math.MinInt, -1 << 32, -8, -1, 0, 0, 0, 1, 1, 2, 7, 1 << 32, math.MaxInt}
	pick := func() int { return numbers[r.Intn(len(numbers))] }
	o := api.Outcome{End: pick()}
	for range r.Intn(5) {
		o.Events = append(o.Events, api.Event{Proc: pick(), Kind: pick(), N: pick()})
	}
	return o
}

// P1, P11.3: outcomes of any numbers, and long ones.
func TestAnyOutcomes(t *testing.T) {
	r := rand.New(rand.NewSource(113))
	for range 20000 {
		a, b := anyOutcome(r), anyOutcome(r)
		expectPlainOrder(t, a, b)
		// The second one begins as the first one does.
		if b.Events = append(slices.Clone(a.Events[:r.Intn(len(a.Events)+1)]), b.Events...); r.Intn(3) == 0 {
			b.Events = b.Events[:min(len(a.Events), len(b.Events))]
		}
		expectPlainOrder(t, a, b)
		expectPlainOrder(t, b, a)
		expectPlainOrder(t, a, api.Outcome{Events: slices.Clone(a.Events), End: a.End})
		expectPlainOrder(t, a, api.Outcome{Events: a.Events, End: b.End})
	}
	long := api.Outcome{Events: make([]api.Event, 1<<16)}
	for _, i := range []int{0, 255, 256, 257, 1<<16 - 1} {
		other := api.Outcome{Events: slices.Clone(long.Events)}
		other.Events[i].N = 1
		if run.First(long, other) != i || run.Compare(long, other) != -1 || run.Same(long, other) {
			t.Errorf("P11.3: a difference at %d", i)
		}
		other.Events = other.Events[:i]
		if run.First(long, other) != i || run.Compare(long, other) != 1 || run.Same(long, other) {
			t.Errorf("P11.3: no events from %d on", i)
		}
	}
}
