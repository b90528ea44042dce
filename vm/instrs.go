package vm

import (
	"scoria/api"
	"scoria/word"
)

// instruction says how an instruction is executed.
type instruction struct {
	visible bool // whatever will come of it
	// check throws the code that the instruction throws, and changes nothing; nil, if it never throws one.
	check func(m *machine, x api.Instr)
	// do executes the instruction; nil, if it always throws a code.
	do func(m *machine, x api.Instr)
}

// instructions returns the table of the instructions.
func instructions() [api.Instrs]instruction {
	return [api.Instrs]instruction{
		api.IPush:   {do: (*machine).doPush},
		api.ILoad:   {do: (*machine).doLoad},
		api.IStore:  {do: (*machine).doStore},
		api.IElem:   {check: (*machine).checkElem, do: (*machine).doElem},
		api.IPut:    {check: (*machine).checkPut, do: (*machine).doPut},
		api.IOp:     {check: (*machine).checkOp, do: (*machine).doOp},
		api.INot:    {do: (*machine).doNot},
		api.IJump:   {do: (*machine).doJump},
		api.IFalse:  {do: (*machine).doFalse},
		api.ICall:   {check: (*machine).checkCall, do: (*machine).doCall},
		api.IReturn: {do: (*machine).doReturn},
		api.IThrow:  {check: (*machine).checkThrow},
		api.ITry:    {do: (*machine).doTry},
		api.IDone:   {do: (*machine).doDone},
		api.ISend:   {visible: true, do: (*machine).doSend},
		api.IRecv:   {visible: true, do: (*machine).doRecv},
		api.ISpawn:  {visible: true, check: (*machine).checkSpawn, do: (*machine).doSpawn},
		api.IOut:    {visible: true, do: (*machine).doOut},
		api.IDrop:   {do: (*machine).doDrop},
	}
}

// push adds a word at the end of the stack.
func (m *machine) push(n int) {
	f := m.frame()
	f.Stack = append(f.Stack, n)
}

// last returns one of the last words of the stack, which are counted from 1 on, the very last one first.
func (m *machine) last(n int) int {
	stack := m.frame().Stack
	return stack[len(stack)-n]
}

// pop removes the last word of the stack.
func (m *machine) pop() int {
	return m.popAll(1)[0]
}

// popAll removes the last words of the stack, and returns them in the order in which they were pushed. They are still in its memory: the next push can change them.
func (m *machine) popAll(count int) []int {
	f := m.frame()
	height := len(f.Stack) - count
	words := f.Stack[height:]
	f.Stack = f.Stack[:height]
	return words
}

// checkIndex throws a code, if there is no element with this index.
func checkIndex(index, length int) {
	if index < 0 || index >= length {
		panic(exception(api.ExIndex))
	}
}

func (m *machine) checkElem(x api.Instr) { checkIndex(m.last(1), x.B) }

func (m *machine) checkPut(x api.Instr) { checkIndex(m.last(2), x.B) }

func (m *machine) checkOp(x api.Instr) {
	if _, code := word.Op(x.A, m.last(2), m.last(1)); code != 0 {
		panic(exception(code))
	}
}

func (m *machine) checkCall(api.Instr) {
	if len(m.process().Frames) >= api.MaxFrames {
		panic(exception(api.ExDeep))
	}
}

func (m *machine) checkSpawn(api.Instr) {
	if len(m.state.Procs) >= api.MaxProcs {
		panic(exception(api.ExProcs))
	}
}

func (m *machine) checkThrow(api.Instr) { panic(exception(m.last(1))) }

func (m *machine) doPush(x api.Instr) { m.push(x.A) }

func (m *machine) doLoad(x api.Instr) { m.push(m.frame().Words[x.A]) }

func (m *machine) doStore(x api.Instr) { m.frame().Words[x.A] = m.pop() }

func (m *machine) doElem(x api.Instr) { m.push(m.frame().Words[x.A+m.pop()]) }

func (m *machine) doPut(x api.Instr) {
	value := m.pop()
	index := m.pop()
	m.frame().Words[x.A+index] = value
}

func (m *machine) doOp(x api.Instr) {
	second := m.pop()
	first := m.pop()
	result, _ := word.Op(x.A, first, second)
	m.push(result)
}

func (m *machine) doNot(api.Instr) {
	if m.pop() == 0 {
		m.push(1)
	} else {
		m.push(0)
	}
}

func (m *machine) doJump(x api.Instr) { m.frame().At = x.A }

func (m *machine) doFalse(x api.Instr) {
	if m.pop() == 0 {
		m.frame().At = x.A
	}
}

func (m *machine) doCall(x api.Instr) {
	f := m.call(x.A, m.popAll(x.B))
	p := m.process()
	p.Frames = append(p.Frames, f)
}

func (m *machine) doReturn(api.Instr) {
	result := m.pop()
	p := m.process()
	p.Frames = p.Frames[:len(p.Frames)-1]
	if hasEnded(*p) {
		m.show(api.EvEnd, result)
	} else {
		m.push(result)
	}
}

func (m *machine) doTry(x api.Instr) {
	f := m.frame()
	f.Tries = append(f.Tries, api.Try{At: x.A, Word: x.B, Height: len(f.Stack)})
}

func (m *machine) doDone(api.Instr) {
	f := m.frame()
	f.Tries = f.Tries[:len(f.Tries)-1]
}

func (m *machine) doSend(x api.Instr) {
	channels := m.state.Chans
	channels[x.A] = append(channels[x.A], m.pop())
}

func (m *machine) doRecv(x api.Instr) {
	channels := m.state.Chans
	m.push(channels[x.A][0])
	channels[x.A] = channels[x.A][1:]
}

func (m *machine) doSpawn(x api.Instr) { m.start(x.A, m.popAll(x.B)) }

func (m *machine) doOut(api.Instr) { m.show(api.EvOut, m.pop()) }

func (m *machine) doDrop(api.Instr) { m.pop() }
