package vm_test

import (
	"crypto/sha256"
	"slices"
	"testing"

	"scoria/api"
	"scoria/vm"
	"scoria/wire"
	"scoria/word"
)

// cloned is s without any of its memory.
func cloned(s api.State) api.State {
	t := api.State{Steps: s.Steps}
	for _, p := range s.Procs {
		var q api.Proc
		for _, f := range p.Frames {
			g := api.Frame{Fun: f.Fun, At: f.At}
			g.Words = append(g.Words, f.Words...)
			g.Stack = append(g.Stack, f.Stack...)
			g.Tries = append(g.Tries, f.Tries...)
			q.Frames = append(q.Frames, g)
		}
		t.Procs = append(t.Procs, q)
	}
	for _, words := range s.Chans {
		t.Chans = append(t.Chans, append([]int(nil), words...))
	}
	return t
}

// seen counts what was executed: names of instructions, and what was thrown, and how it was handled.
var seen = map[string]int{}

// stepper executes one instruction of a process.
type stepper struct {
	c      api.Code
	s      api.State
	proc   int
	events []api.Event
}

func (m *stepper) frames() []api.Frame { return m.s.Procs[m.proc].Frames }

// innermost is the innermost frame.
func (m *stepper) innermost() *api.Frame { return &m.frames()[len(m.frames())-1] }

// take removes words from the stack; they are in the order in which they were pushed.
func (m *stepper) take(n int) []int {
	f := m.innermost()
	var l []int
	for range n {
		l = append([]int{f.Stack[len(f.Stack)-1]}, l...)
		f.Stack = f.Stack[:len(f.Stack)-1]
	}
	return l
}

func (m *stepper) give(n int) { m.innermost().Stack = append(m.innermost().Stack, n) }

// called is a frame for a function with arguments.
func (m *stepper) called(f int, args []int) api.Frame {
	words := append([]int(nil), args...)
	for len(words) < m.c.Funs[f].Words {
		words = append(words, 0)
	}
	return api.Frame{Fun: f, Words: words}
}

// event adds an event, after which the process has no frames, if it has ended.
func (m *stepper) event(kind, n int) {
	m.events = append(m.events, api.Event{Proc: m.proc, Kind: kind, N: n})
	if kind != api.EvOut {
		m.s.Procs[m.proc].Frames = nil
	}
}

// throw throws a code.
func (m *stepper) throw(code int) {
	for above := 0; len(m.frames()) > 0; above++ {
		f := m.innermost()
		if len(f.Tries) == 0 {
			m.s.Procs[m.proc].Frames = m.frames()[:len(m.frames())-1]
			continue
		}
		x := f.Tries[len(f.Tries)-1]
		count(above > 0, "caught in a frame below")
		count(above == 0, "caught in the same frame")
		count(len(f.Tries) > 1, "caught by one of several handlers")
		count(x.Height > 0, "caught at a height")
		f.Tries = f.Tries[:len(f.Tries)-1]
		f.Stack = f.Stack[:x.Height]
		f.Words[x.Word] = code
		f.At = x.At
		return
	}
	count(true, "not caught")
	m.event(api.EvFault, code)
}

// count counts something that is so.
func count(so bool, name string) {
	if so {
		seen[name]++
	}
}

// throwIf throws a code, if it has to be, and reports whether it did.
func (m *stepper) throwIf(so bool, code int, name string) bool {
	count(so, name)
	if so {
		m.throw(code)
	}
	return so
}

// execute executes the next instruction of the process.
func (m *stepper) execute() {
	f := m.innermost()
	x := m.c.Funs[f.Fun].Body[f.At]
	m.s.Steps++
	f.At++
	count(true, ops[x.Op])
	switch x.Op {
	case api.IPush:
		m.give(x.A)
	case api.ILoad:
		m.give(f.Words[x.A])
	case api.IStore:
		f.Words[x.A] = m.take(1)[0]
	case api.IElem:
		i := m.take(1)[0]
		if !m.throwIf(i < 0 || i > x.B-1, 1, "thrown by elem") {
			m.give(f.Words[x.A+i])
		}
	case api.IPut:
		l := m.take(2)
		if !m.throwIf(l[0] < 0 || l[0] > x.B-1, 1, "thrown by put") {
			f.Words[x.A+l[0]] = l[1]
		}
	case api.IOp:
		l := m.take(2)
		n, code := word.Op(x.A, l[0], l[1])
		if !m.throwIf(code != 0, code, "thrown by op") {
			m.give(n)
		}
	case api.INot:
		n := m.take(1)[0]
		count(n != 0 && n != 1, "not of another word")
		m.give(map[bool]int{true: 1}[n == 0])
	case api.IJump:
		f.At = x.A
	case api.IFalse:
		n := m.take(1)[0]
		count(n != 0 && n != 1, "false of another word")
		if n == 0 {
			f.At = x.A
		}
	default:
		m.executeMore(f, x)
	}
}

// executeMore executes the instructions with which frames, handlers, channels and processes change.
func (m *stepper) executeMore(f *api.Frame, x api.Instr) {
	switch x.Op {
	case api.ICall:
		l := m.take(x.B)
		if !m.throwIf(len(m.frames()) == 8, 3, "thrown by call") {
			m.s.Procs[m.proc].Frames = append(m.frames(), m.called(x.A, l))
		}
	case api.IReturn:
		n := m.take(1)[0]
		if len(m.frames()) == 1 {
			m.event(api.EvEnd, n)
			break
		}
		m.s.Procs[m.proc].Frames = m.frames()[:len(m.frames())-1]
		m.give(n)
	case api.IThrow:
		m.throwIf(true, m.take(1)[0], "thrown by throw")
	case api.ITry:
		f.Tries = append(f.Tries, api.Try{At: x.A, Word: x.B, Height: len(f.Stack)})
	case api.IDone:
		f.Tries = f.Tries[:len(f.Tries)-1]
	case api.ISend:
		m.s.Chans[x.A] = append(m.s.Chans[x.A], m.take(1)[0])
	case api.IRecv:
		m.give(m.s.Chans[x.A][0])
		m.s.Chans[x.A] = append([]int(nil), m.s.Chans[x.A][1:]...)
	case api.ISpawn:
		l := m.take(x.B)
		if !m.throwIf(len(m.s.Procs) == 4, 4, "thrown by spawn") {
			m.s.Procs = append(m.s.Procs, api.Proc{Frames: []api.Frame{m.called(x.A, l)}})
		}
	case api.IOut:
		m.event(api.EvOut, m.take(1)[0])
	case api.IDrop:
		m.take(1)
	}
}

// step is the state after the next instruction of a process, and its events.
func step(c api.Code, s api.State, proc int) (api.State, []api.Event) {
	m := &stepper{c: c, s: cloned(s), proc: proc}
	m.execute()
	return m.s, m.events
}

// visible reports whether the next instruction of a process is visible.
func visible(c api.Code, s api.State, proc int) bool {
	switch nextOf(c, s, proc).Op {
	case api.ISend, api.IRecv, api.ISpawn, api.IOut:
		return true
	}
	after, _ := step(c, s, proc)
	return len(after.Procs[proc].Frames) == 0
}

// nextOf is the next instruction of a process that has not ended.
func nextOf(c api.Code, s api.State, proc int) api.Instr {
	frames := s.Procs[proc].Frames
	f := frames[len(frames)-1]
	return c.Funs[f.Fun].Body[f.At]
}

// goOn is the state in which a process stands before a visible instruction; false, if the fuel is used up before that.
func goOn(c api.Code, s api.State, proc, fuel int) (api.State, bool) {
	for !visible(c, s, proc) {
		if s.Steps >= fuel {
			return s, false
		}
		s, _ = step(c, s, proc)
	}
	return s, true
}

// plainNew is what New has to return, without events.
func plainNew(c api.Code, args []int, fuel int) (api.State, api.Errno) {
	if len(args) != c.Funs[0].Params {
		return api.State{}, api.ErrArg
	}
	for _, n := range args {
		if n < -8 || n > 7 {
			return api.State{}, api.ErrArg
		}
	}
	m := stepper{c: c}
	s := api.State{Procs: []api.Proc{{Frames: []api.Frame{m.called(0, args)}}}}
	for range c.Chans {
		s.Chans = append(s.Chans, nil)
	}
	s, enough := goOn(c, s, 0, fuel)
	return s, plainError(enough)
}

// plainError is the error of what has had enough fuel, or not.
func plainError(enough bool) api.Errno {
	if enough {
		return api.OK
	}
	return api.ErrFuel
}

// plainReady is what Ready has to return.
func plainReady(c api.Code, s api.State) []int {
	var l []int
	for i, p := range s.Procs {
		if len(p.Frames) == 0 {
			continue
		}
		x := nextOf(c, s, i)
		full := x.Op == api.ISend && len(s.Chans[x.A]) == 2
		empty := x.Op == api.IRecv && len(s.Chans[x.A]) == 0
		if !full && !empty {
			l = append(l, i)
		}
	}
	return l
}

// plainEnded is what Ended has to return.
func plainEnded(c api.Code, s api.State) int {
	ended := 0
	for _, p := range s.Procs {
		if len(p.Frames) == 0 {
			ended++
		}
	}
	if ended == len(s.Procs) {
		return api.EndDone
	}
	if len(plainReady(c, s)) == 0 {
		return api.EndStuck
	}
	return -1
}

// plainTurn is what Turn has to return.
func plainTurn(c api.Code, s api.State, proc, fuel int) (api.State, []api.Event, api.Errno) {
	if !slices.Contains(plainReady(c, s), proc) {
		return api.State{}, nil, api.ErrArg
	}
	if s.Steps >= fuel {
		return s, nil, api.ErrFuel
	}
	before := len(s.Procs)
	s, events := step(c, s, proc)
	enough := true
	if len(s.Procs[proc].Frames) > 0 {
		s, enough = goOn(c, s, proc, fuel)
	}
	if enough && len(s.Procs) > before {
		count(true, "a process was started")
		s, enough = goOn(c, s, before, fuel)
	}
	return s, events, plainError(enough)
}

// plainEncoding is the encoding of a state, without Steps.
func plainEncoding(s api.State) []byte {
	var b []byte
	number := func(n int) { b = append(b, wire.Int(n)...) }
	list := func(l ...int) {
		number(len(l))
		for _, n := range l {
			number(n)
		}
	}
	number(len(s.Procs))
	for _, p := range s.Procs {
		number(len(p.Frames))
		for _, f := range p.Frames {
			list(f.Fun, f.At)
			list(f.Words...)
			list(f.Stack...)
			number(3 * len(f.Tries))
			for _, x := range f.Tries {
				number(x.At)
				number(x.Word)
				number(x.Height)
			}
		}
	}
	number(len(s.Chans))
	for _, words := range s.Chans {
		list(words...)
	}
	return b
}

// plainDigest is the digest of a state.
func plainDigest(s api.State) api.Digest {
	h := sha256.Sum256(slices.Concat([]byte{3}, wire.Bytes(string(plainEncoding(s)))))
	return api.Digest(h[:16])
}

// identical reports whether two states are equal in all fields.
func identical(a, b api.State) bool {
	return a.Steps == b.Steps && slices.Equal(plainEncoding(a), plainEncoding(b))
}

// isZero reports whether there is no state.
func isZero(s api.State) bool { return identical(s, api.State{}) }

// expectPlainNew compares New with what it has to return.
func expectPlainNew(t *testing.T, c api.Code, args []int, fuel int) (api.State, api.Errno) {
	t.Helper()
	want, wrong := plainNew(c, args, fuel)
	got, events, e := vm.New(c, args, fuel)
	if e != wrong || len(events) > 0 || !identical(got, want) {
		t.Fatalf("P10.1: %s, %s, %d and not %s, %d for %v, the arguments %v and the fuel %d", show(got), told(events), e, show(want), wrong, c, args, fuel)
	}
	return got, e
}

// expectPlainTurn compares Turn with what it has to return.
func expectPlainTurn(t *testing.T, c api.Code, s api.State, proc, fuel int) (api.State, []api.Event, api.Errno) {
	t.Helper()
	want, list, wrong := plainTurn(c, s, proc, fuel)
	got, events, e := vm.Turn(c, s, proc, fuel)
	if e != wrong || !slices.Equal(events, list) || !identical(got, want) {
		t.Fatalf("P10.3: %s, %s, %d and not %s, %s, %d for %v, %s, the process %d and the fuel %d", show(got), told(events), e, show(want), told(list), wrong, c, show(s), proc, fuel)
	}
	return got, events, e
}

// expectPlainState compares Ready, Ended and Digest with what they have to return.
func expectPlainState(t *testing.T, c api.Code, s api.State) {
	t.Helper()
	if got, want := vm.Ready(c, s), plainReady(c, s); !slices.Equal(got, want) {
		t.Fatalf("P10.2: %v and not %v for %v and %s", got, want, c, show(s))
	}
	if got, want := vm.Ended(c, s), plainEnded(c, s); got != want {
		t.Fatalf("P10.4: %d and not %d for %v and %s", got, want, c, show(s))
	}
	if got, want := vm.Digest(s), plainDigest(s); got != want {
		t.Fatalf("P10.5: the digest of %s is %x and not %x", show(s), got, want)
	}
}
