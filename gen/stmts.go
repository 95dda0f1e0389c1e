package gen

import (
	"parallax/api"
	"parallax/check"
	"parallax/flow"
	"parallax/fold"
	"parallax/live"
)

// compiler puts the instructions of a procedure down.
type compiler struct {
	known
	ins    []api.Ins
	mark   int     // to which it has come
	places []int64 // where the instructions of marks begin
	holes  []func()
	lent   int // cells that hold what had no room on the stack
	size   int // cells in all
}

// put puts an instruction down, with the numbers that its operation has.
func (c *compiler) put(op int, numbers ...int64) {
	var n [2]int64
	copy(n[:], numbers)
	c.ins = append(c.ins, api.Ins{Op: op, N: n[0], M: n[1]})
}

// over puts a jump or a zero down, and answers what lets it lead to the place that comes when that is called.
func (c *compiler) over(op int) func() {
	at := len(c.ins)
	c.put(op)
	return func() { c.ins[at].N = int64(len(c.ins)) }
}

// lead puts a jump or a zero down that leads to a mark, whose place may not be known before the end.
func (c *compiler) lead(op, mark int) {
	at := len(c.ins)
	c.put(op)
	c.holes = append(c.holes, func() { c.ins[at].N = c.places[mark] })
}

// goOn goes on with a mark.
func (c *compiler) goOn(mark int) {
	if mark != c.mark+1 {
		c.lead(api.OpJump, mark)
	}
}

// code is what was put down.
func (c *compiler) code() api.Code {
	return api.Code{Ins: c.ins, Cells: c.size, Params: len(c.head.Params), Answers: answers(c.head)}
}

// whole compiles the procedure, mark by mark.
func (c *compiler) whole() {
	defer func() {
		for _, fill := range c.holes {
			fill()
		}
	}()
	for mark, s := range c.steps {
		c.mark = mark
		c.places = append(c.places, int64(len(c.ins)))
		switch {
		case s.Yes == flow.Nowhere:
			c.put(api.OpMark, int64(mark), api.MLeave)
			c.leave()
		case mark == 0:
			c.put(api.OpMark, int64(mark), api.MEnter)
			c.goOn(s.Yes)
		default:
			c.put(api.OpMark, int64(mark), api.MStmt)
			c.stmt(s)
		}
	}
}

func (c *compiler) leave() {
	if !answers(c.head) {
		c.put(api.OpLeave, 0)
		return
	}
	c.put(api.OpLoad, int64(answerCell(c.table)))
	c.put(api.OpLeave, 1)
}

// stmt compiles a statement behind its mark.
func (c *compiler) stmt(s flow.Step) {
	switch s.Kind {
	case api.SIf, api.SWhile:
		c.branch(s)
		return
	case api.SVar:
		c.declare(s)
	case api.SSet:
		c.set(s)
	case api.SPut:
		c.expr(s.E[0], 0)
		c.expr(s.E[1], 1)
		c.put(api.OpPut, c.array(s.Name)...)
	case api.SCall:
		c.call(s)
	case api.SReturn:
		for _, x := range s.E {
			c.expr(x, 0)
			c.put(api.OpStore, int64(answerCell(c.table)))
		}
	case api.SPrint:
		c.expr(s.E[0], 0)
		c.put(api.OpPrint)
	case api.SRead:
		c.put(api.OpRead)
		c.take(s)
	case api.SAssert:
		c.expr(s.E[0], 0)
		c.put(api.OpTest)
	}
	c.goOn(s.Yes)
}

// branch compiles an if or a while, whose blocks have marks of their own.
func (c *compiler) branch(s flow.Step) {
	n, ok := c.constant(s.E[0])
	if ok && n == 0 {
		c.goOn(s.No)
		return
	}
	if !ok {
		c.expr(s.E[0], 0)
		c.lead(api.OpZero, s.No)
	}
	c.goOn(s.Yes)
}

func (c *compiler) declare(s flow.Step) {
	v := live.Sets(s.Stmt, c.vars, c.mark)
	switch {
	case !c.lasts(v, s):
	case c.vars[v].Size > 0:
		c.put(api.OpClear, c.cellsOf(v)...)
	default:
		c.put(api.OpPush, 0)
		c.take(s)
	}
}

// set compiles NAME = e. Of what nobody needs a trap is all that can be seen.
func (c *compiler) set(s flow.Step) {
	if c.lasts(live.Sets(s.Stmt, c.vars, c.mark), s) || fold.Traps(s.E[0]) {
		c.expr(s.E[0], 0)
		c.take(s)
	}
}

func (c *compiler) call(s flow.Step) {
	for i, x := range s.E {
		c.expr(x, i)
	}
	called := numberOf(c.procs, s.Proc)
	c.put(api.OpCall, int64(called), int64(len(s.E)))
	if answers(c.procs[called]) { // one that does not can stand behind a Name whose variable is of no type, where no run ever comes
		c.take(s)
	}
}

// take takes a number from the stack for the variable that a statement sets.
func (c *compiler) take(s flow.Step) {
	v := live.Sets(s.Stmt, c.vars, c.mark)
	if c.lasts(v, s) {
		c.put(api.OpStore, int64(c.table.Cells[v]))
	} else {
		c.put(api.OpDrop)
	}
}

// cellsOf are the first cell of an array, and how many it has.
func (c *compiler) cellsOf(v int) []int64 {
	return []int64{int64(c.table.Cells[v]), int64(c.vars[v].Size)}
}

// array is the cells of the one of a name.
func (c *compiler) array(name string) []int64 {
	return c.cellsOf(check.Find(c.vars, name, c.mark))
}
