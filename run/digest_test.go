package run_test

import (
	"encoding/hex"
	"math"
	"math/rand"
	"strings"
	"testing"

	"scoria/api"
	"scoria/hash"
	"scoria/run"
)

// unhex is the bytes of a text of hexadecimal digits and spaces.
func unhex(t *testing.T, s string) string {
	t.Helper()
	b, err := hex.DecodeString(strings.ReplaceAll(s, " ", ""))
	if err != nil {
		t.Fatal(err)
	}
	return string(b)
}

// P11.4: digests, of bytes that are written by hand: of Args, Sched, events, and End and Steps.
func TestDigest(t *testing.T) {
	for _, x := range []struct {
		name string
		r    api.Run
		want [4]string
	}{
		{"the zero run", api.Run{}, [4]string{"80", "80", "80", "8102 80 80"}},
		{"arguments", api.Run{Args: []int{3, -8}}, [4]string{"8102 8103 7ef8", "80", "80", "8102 80 80"}},
		{"choices", api.Run{Sched: []int{0, 0, 1}}, [4]string{"80", "8103 80 80 8101", "80", "8102 80 80"}},
		{"events", api.Run{Out: api.Outcome{Events: []api.Event{{Proc: 1, Kind: 0, N: 5}, {Proc: 0, Kind: 2, N: -1}}}}, [4]string{"80", "80", "8106 8101 80 8105 80 8102 7f", "8102 80 80"}},
		{"an end", api.Run{Out: api.Outcome{End: api.EndFuel}}, [4]string{"80", "80", "80", "8102 8102 80"}},
		{"steps", api.Run{Steps: 4096}, [4]string{"80", "80", "80", "8102 80 821000"}},
		{"all", api.Run{
			Args: []int{7}, Sched: []int{0, 2}, Out: api.Outcome{Events: []api.Event{{Proc: 2, Kind: 1, N: 6}}, End: api.EndStuck}, Steps: 300,
		}, [4]string{"8101 8107", "8102 80 8102", "8103 8102 8101 8106", "8102 8101 82012c"}},
	} {
		want := hash.Of(api.TagRun, unhex(t, x.want[0]), unhex(t, x.want[1]), unhex(t, x.want[2]), unhex(t, x.want[3]))
		if got := run.Digest(x.r); got != want {
			t.Errorf("P11.4: %s: the digest is %x and not %x", x.name, got, want)
		}
		if plainDigest(x.r) != want {
			t.Errorf("P11.4: %s: the digest is not as in the tests", x.name)
		}
	}
}

// P11.4: digests of runs of Run, which were also calculated outside of the project.
func TestDigestOfRuns(t *testing.T) {
	example := codeOf(t, 0, "0 0: push 3, out, push 5, return")
	for _, x := range []struct {
		name string
		r    api.Run
		want string
	}{
		{"the example", must(t, example, nil, nil, 10), "b469ff2d02ebc4545a1481277b5bb129"},
		{"the example with the fuel 1", must(t, example, nil, nil, 1), "fde41685bcfd928a8bbcd46fdc3d4914"},
		{"the example without fuel", must(t, example, nil, nil, 0), "34f3062a1b86c807d97722fdfe3c0e9c"},
		{"talk", must(t, made(t, talk), []int{3}, []int{0, 1, 0, 1, 1}, 100), "78ca2880e5cc8317f9c682e2b688b74c"},
	} {
		d := run.Digest(x.r)
		if got := hex.EncodeToString(d[:]); got != x.want {
			t.Errorf("P11.4: %s: the digest is %s and not %s", x.name, got, x.want)
		}
	}
}

// P11.4: runs that differ have other digests.
func TestDigestsDiffer(t *testing.T) {
	e := api.Event{Proc: 1, Kind: 2, N: 3}
	f := api.Event{Proc: 0, Kind: 1, N: 2}
	r := api.Run{Args: []int{1, 2}, Sched: []int{0, 1, 0}, Out: api.Outcome{Events: []api.Event{e, f}, End: api.EndStuck}, Steps: 17}
	all := map[api.Digest]string{run.Digest(r): "nothing"}
	for name, change := range map[string]func(r *api.Run){
		"an argument":                  func(r *api.Run) { r.Args[1] = 3 },
		"an argument more":             func(r *api.Run) { r.Args = append(r.Args, 0) },
		"an argument less":             func(r *api.Run) { r.Args = r.Args[:1] },
		"no arguments":                 func(r *api.Run) { r.Args = nil },
		"other order of arguments":     func(r *api.Run) { r.Args = []int{2, 1} },
		"an argument among choices":    func(r *api.Run) { r.Args, r.Sched = []int{1}, []int{2, 0, 1, 0} },
		"a choice among arguments":     func(r *api.Run) { r.Args, r.Sched = []int{1, 2, 0}, []int{1, 0} },
		"arguments and choices":        func(r *api.Run) { r.Args, r.Sched = r.Sched, r.Args },
		"a choice":                     func(r *api.Run) { r.Sched[2] = 1 },
		"a choice more":                func(r *api.Run) { r.Sched = append(r.Sched, 0) },
		"no choices":                   func(r *api.Run) { r.Sched = nil },
		"Proc":                         func(r *api.Run) { r.Out.Events[0].Proc = 0 },
		"Kind":                         func(r *api.Run) { r.Out.Events[0].Kind = 0 },
		"N":                            func(r *api.Run) { r.Out.Events[0].N = 0 },
		"Proc of the last event":       func(r *api.Run) { r.Out.Events[1].Proc = 1 },
		"Kind of the last event":       func(r *api.Run) { r.Out.Events[1].Kind = 0 },
		"N of the last event":          func(r *api.Run) { r.Out.Events[1].N = 1 },
		"other order of events":        func(r *api.Run) { r.Out.Events = []api.Event{f, e} },
		"an event more":                func(r *api.Run) { r.Out.Events = append(r.Out.Events, f) },
		"an event less":                func(r *api.Run) { r.Out.Events = r.Out.Events[:1] },
		"no events":                    func(r *api.Run) { r.Out.Events = nil },
		"choices among numbers":        func(r *api.Run) { r.Sched, r.Out.Events = []int{0, 1, 0, 1, 2, 3}, []api.Event{f} },
		"another end":                  func(r *api.Run) { r.Out.End = api.EndDone },
		"another number of steps":      func(r *api.Run) { r.Steps = 16 },
		"the end and the steps":        func(r *api.Run) { r.Out.End, r.Steps = r.Steps, r.Out.End },
		"an end that does not exist":   func(r *api.Run) { r.Out.End = -1 },
		"steps that cannot be":         func(r *api.Run) { r.Steps = -17 },
		"an event that does not exist": func(r *api.Run) { r.Out.Events[0] = api.Event{Proc: -1, Kind: 9, N: 100} },
	} {
		x := cloned(r)
		change(&x)
		d := run.Digest(x)
		if d != plainDigest(x) {
			t.Errorf("P11.4: %s: the digest is %x", name, d)
		}
		if before, ok := all[d]; ok {
			t.Errorf("P11.4: %s: the same digest as %s", name, before)
		}
		all[d] = name
	}
}

// P1, P11.4: runs of any numbers, empty lists and long ones.
func TestDigestOfAny(t *testing.T) {
	r := rand.New(rand.NewSource(114))
	numbers := []int{math.MinInt, -1 << 32, -257, -256, -9, -1, 0, 1, 8, 127, 128, 255, 256, 4097, 1 << 40, math.MaxInt}
	list := func() []int {
		l := []int{}
		for range r.Intn(5) {
			l = append(l, numbers[r.Intn(len(numbers))])
		}
		return l
	}
	for range 5000 {
		x := api.Run{Args: list(), Sched: list(), Out: anyOutcome(r), Steps: numbers[r.Intn(len(numbers))]}
		if run.Digest(x) != plainDigest(x) {
			t.Fatalf("P11.4: the digest of %v", x)
		}
	}
	empty := api.Run{Args: []int{}, Sched: []int{}, Out: api.Outcome{Events: []api.Event{}}}
	if run.Digest(empty) != run.Digest(api.Run{}) {
		t.Errorf("Rules: nil and empty lists have other digests")
	}
	long := api.Run{Args: make([]int, 1000), Sched: make([]int, 1<<16), Out: api.Outcome{Events: make([]api.Event, 1<<16)}}
	if run.Digest(long) != plainDigest(long) {
		t.Errorf("P11.4: the digest of a long run")
	}
}
