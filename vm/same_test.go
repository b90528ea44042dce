package vm_test

import (
	"encoding/hex"
	"math"
	"math/rand"
	"slices"
	"strings"
	"testing"

	"scoria/api"
	"scoria/hash"
	"scoria/vm"
)

// rich is a state that has everything: it is new memory for each call.
func rich() api.State {
	return api.State{
		Procs: []api.Proc{
			{Frames: []api.Frame{
				{Fun: 0, At: 3, Words: []int{1, 2}, Stack: []int{3}, Tries: []api.Try{{At: 9, Word: 1, Height: 0}, {At: 7, Word: 0, Height: 1}}},
				{Fun: 1, At: 5, Words: []int{4}, Stack: []int{5, 6}},
			}},
			{},
			{Frames: []api.Frame{{Fun: 2, At: 0}}},
		},
		Chans: [][]int{{1, 2}, {}, {-8}},
		Steps: 17,
	}
}

// changes are all ways in which the tests change one field of rich.
func changes() map[string]func(s *api.State) {
	return map[string]func(s *api.State){
		"a process more":              func(s *api.State) { s.Procs = append(s.Procs, api.Proc{}) },
		"a process with a frame more": func(s *api.State) { s.Procs = append(s.Procs, api.Proc{Frames: []api.Frame{{}}}) },
		"a process less":              func(s *api.State) { s.Procs = s.Procs[:2] },
		"no processes":                func(s *api.State) { s.Procs = nil },
		"other order of processes":    func(s *api.State) { s.Procs[1], s.Procs[2] = s.Procs[2], s.Procs[1] },
		"a frame more":                func(s *api.State) { s.Procs[0].Frames = append(s.Procs[0].Frames, api.Frame{}) },
		"a frame less":                func(s *api.State) { s.Procs[0].Frames = s.Procs[0].Frames[:1] },
		"a process that has ended":    func(s *api.State) { s.Procs[2].Frames = nil },
		"one that has not ended":      func(s *api.State) { s.Procs[1].Frames = []api.Frame{{}} },
		"other order of frames":       func(s *api.State) { slices.Reverse(s.Procs[0].Frames) },
		"a frame in another process": func(s *api.State) {
			s.Procs[1], s.Procs[0].Frames = api.Proc{Frames: s.Procs[0].Frames[1:]}, s.Procs[0].Frames[:1]
		},
		"Fun":                        func(s *api.State) { s.Procs[0].Frames[0].Fun = 3 },
		"Fun of a frame above":       func(s *api.State) { s.Procs[0].Frames[1].Fun = 0 },
		"Fun of another process":     func(s *api.State) { s.Procs[2].Frames[0].Fun = 1 },
		"At":                         func(s *api.State) { s.Procs[0].Frames[0].At++ },
		"At of a frame above":        func(s *api.State) { s.Procs[0].Frames[1].At-- },
		"At of another process":      func(s *api.State) { s.Procs[2].Frames[0].At = -1 },
		"Fun and At":                 func(s *api.State) { s.Procs[0].Frames[0].Fun, s.Procs[0].Frames[0].At = 3, 0 },
		"a word":                     func(s *api.State) { s.Procs[0].Frames[0].Words[0] = 2 },
		"the last word":              func(s *api.State) { s.Procs[0].Frames[0].Words[1] = 1 },
		"a word of a frame above":    func(s *api.State) { s.Procs[0].Frames[1].Words[0] = 5 },
		"a word more":                func(s *api.State) { s.Procs[0].Frames[0].Words = append(s.Procs[0].Frames[0].Words, 0) },
		"a first word more":          func(s *api.State) { s.Procs[2].Frames[0].Words = []int{0} },
		"a word less":                func(s *api.State) { s.Procs[0].Frames[0].Words = []int{1} },
		"no words":                   func(s *api.State) { s.Procs[0].Frames[1].Words = nil },
		"other order of words":       func(s *api.State) { slices.Reverse(s.Procs[0].Frames[0].Words) },
		"the stack":                  func(s *api.State) { s.Procs[0].Frames[0].Stack[0] = 4 },
		"the stack of a frame above": func(s *api.State) { s.Procs[0].Frames[1].Stack[1] = 5 },
		"a higher stack":             func(s *api.State) { s.Procs[0].Frames[0].Stack = []int{3, 0} },
		"a first stack":              func(s *api.State) { s.Procs[2].Frames[0].Stack = []int{0} },
		"a lower stack":              func(s *api.State) { s.Procs[0].Frames[1].Stack = []int{5} },
		"no stack":                   func(s *api.State) { s.Procs[0].Frames[0].Stack = nil },
		"other order of the stack":   func(s *api.State) { slices.Reverse(s.Procs[0].Frames[1].Stack) },
		"a word from the stack":      func(s *api.State) { s.Procs[0].Frames[0].Words, s.Procs[0].Frames[0].Stack = []int{1}, []int{2, 3} },
		"words and stack":            func(s *api.State) { s.Procs[0].Frames[1].Words, s.Procs[0].Frames[1].Stack = []int{5, 6}, []int{4} },
		"At of a handler":            func(s *api.State) { s.Procs[0].Frames[0].Tries[0].At = 8 },
		"Word of a handler":          func(s *api.State) { s.Procs[0].Frames[0].Tries[0].Word = 0 },
		"Height of a handler":        func(s *api.State) { s.Procs[0].Frames[0].Tries[0].Height = 1 },
		"At of the last handler":     func(s *api.State) { s.Procs[0].Frames[0].Tries[1].At = 9 },
		"Word of the last handler":   func(s *api.State) { s.Procs[0].Frames[0].Tries[1].Word = 1 },
		"Height of the last handler": func(s *api.State) { s.Procs[0].Frames[0].Tries[1].Height = 0 },
		"a handler more":             func(s *api.State) { s.Procs[0].Frames[0].Tries = append(s.Procs[0].Frames[0].Tries, api.Try{}) },
		"a first handler":            func(s *api.State) { s.Procs[0].Frames[1].Tries = []api.Try{{}} },
		"a handler less":             func(s *api.State) { s.Procs[0].Frames[0].Tries = s.Procs[0].Frames[0].Tries[:1] },
		"another handler less":       func(s *api.State) { s.Procs[0].Frames[0].Tries = s.Procs[0].Frames[0].Tries[1:] },
		"no handlers":                func(s *api.State) { s.Procs[0].Frames[0].Tries = nil },
		"other order of handlers":    func(s *api.State) { slices.Reverse(s.Procs[0].Frames[0].Tries) },
		"handlers in another frame":  func(s *api.State) { f := s.Procs[0].Frames; f[0].Tries, f[1].Tries = nil, f[0].Tries },
		"a channel more":             func(s *api.State) { s.Chans = append(s.Chans, nil) },
		"a channel less":             func(s *api.State) { s.Chans = s.Chans[:2] },
		"no channels":                func(s *api.State) { s.Chans = nil },
		"a word in a channel":        func(s *api.State) { s.Chans[0][0] = 2 },
		"the last word in a channel": func(s *api.State) { s.Chans[0][1] = 1 },
		"the word in the last one":   func(s *api.State) { s.Chans[2][0] = 8 },
		"a word more in a channel":   func(s *api.State) { s.Chans[2] = []int{-8, 0} },
		"a first word in a channel":  func(s *api.State) { s.Chans[1] = []int{0} },
		"a word less in a channel":   func(s *api.State) { s.Chans[0] = []int{1} },
		"no word in a channel":       func(s *api.State) { s.Chans[2] = nil },
		"other order in a channel":   func(s *api.State) { slices.Reverse(s.Chans[0]) },
		"a word in another channel":  func(s *api.State) { s.Chans[0], s.Chans[1] = []int{1}, []int{2} },
		"other order of channels":    func(s *api.State) { s.Chans[1], s.Chans[2] = s.Chans[2], s.Chans[1] },
	}
}

// expectSame is about two states, in both orders, and their digests.
func expectSame(t *testing.T, name string, a, b api.State, want bool) {
	t.Helper()
	if vm.Same(a, b) != want || vm.Same(b, a) != want {
		t.Errorf("P10.5: %s: Same is not %v", name, want)
	}
	if vm.Digest(a) != plainDigest(a) || vm.Digest(b) != plainDigest(b) {
		t.Errorf("P10.5: %s: other digests", name)
	}
	if (vm.Digest(a) == vm.Digest(b)) != want {
		t.Errorf("P10.9: %s: the digests are not as Same is", name)
	}
}

// P10.5, P10.9: states that differ in one field only, and states that do not.
func TestSame(t *testing.T) {
	all := map[string]api.State{"nothing": rich()}
	for name, change := range changes() {
		s := rich()
		change(&s)
		all[name] = s
	}
	for name, a := range all {
		for other, b := range all {
			expectSame(t, name+" and "+other, a, b, name == other)
		}
		b := cloned(a)
		expectSame(t, "a copy of "+name, a, b, true)
		for _, n := range []int{0, 16, 18, -1, math.MaxInt, math.MinInt} {
			b.Steps = n
			expectSame(t, "Steps and "+name, a, b, true)
		}
	}
}

// P10.5, Rules: nil and empty lists are the same.
func TestSameOfEmpty(t *testing.T) {
	empty := api.State{Procs: []api.Proc{}, Chans: [][]int{}}
	expectSame(t, "the zero state", api.State{}, empty, true)
	lists := api.State{Procs: []api.Proc{{Frames: []api.Frame{}}, {Frames: []api.Frame{{Words: []int{}, Stack: []int{}, Tries: []api.Try{}}}}}, Chans: [][]int{{}, {}}}
	none := api.State{Procs: []api.Proc{{}, {Frames: []api.Frame{{}}}}, Chans: [][]int{nil, nil}}
	expectSame(t, "lists", lists, none, true)
	expectSame(t, "a process", empty, api.State{Procs: []api.Proc{{}}}, false)
	expectSame(t, "a channel", empty, api.State{Chans: [][]int{{}}}, false)
	expectSame(t, "a process and a channel", api.State{Procs: []api.Proc{{}}}, api.State{Chans: [][]int{{}}}, false)
}

// P10.5: digests, of bytes that are written by hand.
func TestDigest(t *testing.T) {
	for _, x := range []struct {
		s    api.State
		want string
	}{
		{api.State{}, "80 80"},
		{api.State{Steps: 5}, "80 80"},
		{api.State{Procs: []api.Proc{{}}}, "8101 80 80"},
		{api.State{Chans: [][]int{nil}}, "80 8101 80"},
		{api.State{Chans: [][]int{{7, -8}, nil, {0}}}, "80 8103 8102 8107 7ef8 80 8101 80"},
		{api.State{Procs: []api.Proc{{Frames: []api.Frame{{}}}}}, "8101 8101 8102 80 80 80 80 80 80"},
		{api.State{Procs: []api.Proc{{Frames: []api.Frame{{Fun: 1, At: 300}}}}}, "8101 8101 8102 8101 82012c 80 80 80 80"},
		{api.State{Procs: []api.Proc{{Frames: []api.Frame{{Words: []int{1}}}}}}, "8101 8101 8102 80 80 8101 8101 80 80 80"},
		{api.State{Procs: []api.Proc{{Frames: []api.Frame{{Stack: []int{1, 2}}}}}}, "8101 8101 8102 80 80 80 8102 8101 8102 80 80"},
		{api.State{Procs: []api.Proc{{Frames: []api.Frame{{Tries: []api.Try{{At: 1, Word: 2, Height: 3}, {At: 4}}}}}}}, "8101 8101 8102 80 80 80 80 8106 8101 8102 8103 8104 80 80 80"},
		{rich(), "8103 8102 8102 80 8103 8102 8101 8102 8101 8103 8106 8109 8101 80 8107 80 8101 8102 8101 8105 8101 8104 8102 8105 8106 80 80 8101 8102 8102 80 80 80 80 8103 8102 8101 8102 80 8101 7ef8"},
	} {
		b, err := hex.DecodeString(strings.ReplaceAll(x.want, " ", ""))
		if err != nil {
			t.Fatal(err)
		}
		if vm.Digest(x.s) != hash.Of(api.TagState, string(b)) {
			t.Errorf("P10.5: the digest of %s", show(x.s))
		}
		if vm.Digest(x.s) != plainDigest(x.s) {
			t.Errorf("P10.5: the digest of %s is not as in the tests", show(x.s))
		}
	}
}

// wild is a state of any numbers.
func wild(r *rand.Rand) api.State {
	numbers := []int{math.MinInt, math.MinInt + 1, -1 << 32, -257, -256, -9, -8, -1, 0, 0, 1, 2, 3, 7, 8, 127, 128, 255, 256, 65536, 1 << 32, math.MaxInt}
	pick := func() int { return numbers[r.Intn(len(numbers))] }
	list := func() []int {
		l := []int{}
		for range r.Intn(4) {
			l = append(l, pick())
		}
		return l
	}
	s := api.State{Steps: pick()}
	for range r.Intn(6) {
		var p api.Proc
		for range r.Intn(4) {
			f := api.Frame{Fun: pick(), At: pick(), Words: list(), Stack: list()}
			for range r.Intn(3) {
				f.Tries = append(f.Tries, api.Try{At: pick(), Word: pick(), Height: pick()})
			}
			p.Frames = append(p.Frames, f)
		}
		s.Procs = append(s.Procs, p)
	}
	for range r.Intn(5) {
		s.Chans = append(s.Chans, list())
	}
	return s
}

// P1, P10.5: states that New and Turn did not return, of any numbers, and large ones.
func TestWildStates(t *testing.T) {
	r := rand.New(rand.NewSource(105))
	var last api.State
	for range 3000 {
		s := wild(r)
		expectSame(t, "a copy", s, cloned(s), true)
		expectSame(t, "the last one", s, last, identical(api.State{Procs: s.Procs, Chans: s.Chans}, api.State{Procs: last.Procs, Chans: last.Chans}))
		last = s
	}
	many := api.State{Procs: slices.Repeat([]api.Proc{{Frames: []api.Frame{{Words: []int{1}}}}}, 1<<15), Chans: slices.Repeat([][]int{{1}}, 1<<15)}
	deep := api.State{Procs: []api.Proc{{Frames: slices.Repeat([]api.Frame{{Stack: []int{1}}}, 1<<15)}}}
	for _, s := range []api.State{many, deep} {
		expectSame(t, "a large state", s, cloned(s), true)
		expectSame(t, "a large state and none", s, api.State{}, false)
	}
}
