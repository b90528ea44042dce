package vm

import "scoria/api"

// none stands in the place of the index of a frame that has a handler.
const none = -1

// maxWords is the greatest number of the words of a frame of valid code. Code that is not valid gets no more either, nor more channels than valid code: it could want more memory than there is, which nothing recovers.
const maxWords = 24

// exception is a code that is thrown.
type exception int

// machine is a state that changes, while its processes execute instructions.
type machine struct {
	code   api.Code
	table  [api.Instrs]instruction
	state  api.State
	fuel   int
	proc   int // the process that executes instructions
	events []api.Event
}

// newMachine returns a machine that changes a state.
func newMachine(c api.Code, s api.State, fuel int) *machine {
	return &machine{code: c, table: instructions(), state: s, fuel: fuel}
}

// result returns what has become of the state, and whether there was enough fuel for it.
func (m *machine) result(enough bool) (api.State, []api.Event, api.Errno) {
	if !enough {
		return m.state, m.events, api.ErrFuel
	}
	return m.state, m.events, api.OK
}

// process returns the process that executes instructions. A process that starts can move all of them.
func (m *machine) process() *api.Proc {
	return &m.state.Procs[m.proc]
}

// frame returns the innermost frame of the process.
func (m *machine) frame() *api.Frame {
	p := m.process()
	return &p.Frames[len(p.Frames)-1]
}

// start adds a process that has called a function.
func (m *machine) start(f int, args []int) {
	m.state.Procs = append(m.state.Procs, api.Proc{Frames: []api.Frame{m.call(f, args)}})
}

// call returns the frame for a call of a function. It keeps a copy of the arguments.
func (m *machine) call(f int, args []int) api.Frame {
	words := make([]int, min(m.code.Funs[f].Words, maxWords))
	copy(words, args)
	return api.Frame{Fun: f, Words: words}
}

// show adds an event of the process.
func (m *machine) show(kind, n int) {
	m.events = append(m.events, api.Event{Proc: m.proc, Kind: kind, N: n})
}

// prospect is what will come of an instruction.
type prospect struct {
	instr   api.Instr
	throws  bool
	code    exception // that is thrown
	visible bool
}

// look returns what will come of the next instruction of the process. It changes nothing: whether an instruction is visible can depend on what it throws, and has to be known before it is executed.
func (m *machine) look() prospect {
	x := next(m.code, *m.process())
	code, throws := m.thrown(x)
	ends := x.Op == api.IReturn && len(m.process().Frames) == 1 || throws && m.handling() == none
	return prospect{instr: x, throws: throws, code: code, visible: m.table[x.Op].visible || ends}
}

// thrown returns the code that an instruction throws, and whether it throws one. A panic that is no such code, for code that is not valid, comes again when the instruction is executed.
func (m *machine) thrown(x api.Instr) (code exception, throws bool) {
	check := m.table[x.Op].check
	if check == nil {
		return 0, false
	}
	defer func() {
		if r := recover(); r != nil {
			code, throws = r.(exception)
		}
	}()
	check(m, x)
	return 0, false
}

// execute executes the next instruction of the process, and reports whether there was fuel for it.
func (m *machine) execute(p prospect) bool {
	if m.state.Steps >= m.fuel {
		return false
	}
	m.state.Steps++
	m.frame().At++
	if p.throws {
		m.catch(p.code)
	} else {
		m.table[p.instr.Op].do(m, p.instr)
	}
	return true
}

// goOn lets the process execute instructions until its next one is visible, and reports whether there was fuel for all of them.
func (m *machine) goOn() bool {
	for {
		p := m.look()
		if p.visible {
			return true
		}
		if !m.execute(p) {
			return false
		}
	}
}

// handling returns the index of the innermost frame of the process that has a handler.
func (m *machine) handling() int {
	frames := m.process().Frames
	for i := len(frames) - 1; i >= 0; i-- {
		if len(frames[i].Tries) > 0 {
			return i
		}
	}
	return none
}

// catch lets the process go on at the innermost handler, if there is one, and end otherwise.
func (m *machine) catch(code exception) {
	at := m.handling()
	p := m.process()
	p.Frames = p.Frames[:at+1]
	if at == none {
		m.show(api.EvFault, int(code))
		return
	}
	f := m.frame()
	last := len(f.Tries) - 1
	t := f.Tries[last]
	f.Tries = f.Tries[:last]
	f.Stack = f.Stack[:t.Height]
	f.Words[t.Word] = int(code)
	f.At = t.At
}
