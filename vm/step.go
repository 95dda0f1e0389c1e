package vm

import (
	"slices"

	"parallax/api"
	"parallax/num"
)

// Step goes on to the next tick.
func (m *Machine) Step() bool {
	if m == nil || !m.running {
		return false
	}
	ticks := m.ticks
stepping:
	for range api.MaxSteps {
		i := m.fetch()
		switch i.Op {
		case api.OpMark:
			if m.fuel > 0 {
				m.mark(i)
			}
			break stepping
		case api.OpJump:
			m.top().place = int(i.N)
		case api.OpZero:
			if m.pop() == 0 {
				m.top().place = int(i.N)
			}
		case api.OpCall:
			m.call(i)
		case api.OpLeave:
			m.leave()
		case api.OpPrint:
			m.tell(api.EvPrint, m.pop())
		case api.OpRead:
			m.readNumber()
		case api.OpTest:
			if m.pop() == 0 {
				m.trap(api.TrapAssert)
			}
		default:
			m.reckon(i)
		}
		if !m.running {
			break stepping
		}
	}
	ticked := m.ticks > ticks
	if m.running && !ticked { // there was no fuel for a mark, or no mark
		m.end(api.EvFuel, 0)
	}
	return ticked
}

// top is the last frame, till another one is put on it.
func (m *Machine) top() *frame { return &m.frames[len(m.frames)-1] }

// fetch is the instruction that comes; the next place then is the one behind it.
func (m *Machine) fetch() api.Ins {
	f := m.top()
	i := m.codes[f.proc].Ins[f.place]
	f.place++
	return i
}

func (m *Machine) push(n int64) { m.stack = append(m.stack, n) }

func (m *Machine) pop() int64 {
	last := len(m.stack) - 1
	n := m.stack[last]
	m.stack = m.stack[:last]
	return n
}

func (m *Machine) tell(kind int, n int64) {
	m.events = append(m.events, api.Event{Kind: kind, N: n})
}

// end is the last thing that a machine does.
func (m *Machine) end(kind int, n int64) {
	m.tell(kind, n)
	m.running = false
}

func (m *Machine) trap(trap int) { m.end(api.EvTrap, int64(trap)) }

// mark puts a tick down.
func (m *Machine) mark(i api.Ins) {
	m.fuel--
	m.ticks++
	f := m.top()
	f.mark = int(i.N)
	m.last = api.Tick{Kind: int(i.M), Proc: f.proc, Mark: f.mark, Depth: len(m.frames)}
}

func (m *Machine) call(i api.Ins) {
	if len(m.frames) == api.MaxDepth {
		m.trap(api.TrapDepth)
		return
	}
	m.enter(int(i.N), int(i.M))
}

// enter puts a frame of a procedure down, with so many numbers from the stack in its first cells.
func (m *Machine) enter(proc, given int) {
	f := frame{spot: spot{proc: proc}, mark: unmarked, base: len(m.cells)}
	m.frames = append(m.frames, f)
	size := m.codes[proc].Cells
	m.cells = slices.Grow(m.cells, size)[:f.base+size]
	cells := m.cellsOf(f)
	clear(cells) // frames that were left may have stood there
	rest := len(m.stack) - given
	copy(cells, m.stack[rest:])
	m.stack = m.stack[:rest]
}

// cellsOf is where the cells of a frame are, till another one is put down.
func (m *Machine) cellsOf(f frame) []int64 {
	return m.cells[f.base : f.base+m.codes[f.proc].Cells]
}

// leave takes the last frame away. Its stack has what it answers and nothing more: that then is on top of what the frame ahead has.
func (m *Machine) leave() {
	m.cells = m.cells[:m.top().base]
	m.frames = m.frames[:len(m.frames)-1]
	if len(m.frames) == 0 {
		m.end(api.EvEnd, 0)
	}
}

func (m *Machine) readNumber() {
	if m.read == len(m.input) {
		m.trap(api.TrapInput)
		return
	}
	n := m.input[m.read]
	m.read++
	m.tell(api.EvRead, n)
	m.push(n)
}

// reckon runs an instruction that asks for nothing but the last frame's cells and its stack.
func (m *Machine) reckon(i api.Ins) {
	cells := m.cellsOf(*m.top())
	switch i.Op {
	case api.OpPush:
		m.push(i.N)
	case api.OpLoad:
		m.push(cells[i.N])
	case api.OpStore:
		cells[i.N] = m.pop()
	case api.OpIndex:
		m.index(cells[i.N : i.N+i.M])
	case api.OpPut:
		m.put(cells[i.N : i.N+i.M])
	case api.OpClear:
		clear(cells[i.N : i.N+i.M])
	case api.OpNot:
		m.push(truth(m.pop() == 0))
	case api.OpNeg:
		m.push(num.Neg(m.pop()))
	case api.OpDrop:
		m.pop()
	default:
		b := m.pop()
		a := m.pop()
		m.join(i.Op, a, b)
	}
}

func (m *Machine) index(list []int64) {
	at := m.pop()
	if !isPlace(at, list) {
		m.trap(api.TrapIndex)
		return
	}
	m.push(list[at])
}

func (m *Machine) put(list []int64) {
	n := m.pop()
	at := m.pop()
	if !isPlace(at, list) {
		m.trap(api.TrapIndex)
		return
	}
	list[at] = n
}

func isPlace(n int64, list []int64) bool { return 0 <= n && n < int64(len(list)) }

// join puts down what an operation makes of two numbers.
func (m *Machine) join(op int, a, b int64) {
	n, e := between(op, a, b)
	if e != api.OK {
		m.trap(api.TrapZero)
		return
	}
	m.push(n)
}

// between is what an operation makes of two numbers; the one error there is is a division by 0.
func between(op int, a, b int64) (int64, api.Errno) {
	switch op {
	case api.OpAdd:
		return num.Add(a, b), api.OK
	case api.OpSub:
		return num.Sub(a, b), api.OK
	case api.OpMul:
		return num.Mul(a, b), api.OK
	case api.OpDiv:
		return num.Div(a, b)
	case api.OpMod:
		return num.Mod(a, b)
	case api.OpLess:
		return truth(a < b), api.OK
	case api.OpMost:
		return truth(a <= b), api.OK
	}
	return truth(a == b), api.OK // OpSame
}

func truth(holds bool) int64 {
	if holds {
		return 1
	}
	return 0
}
