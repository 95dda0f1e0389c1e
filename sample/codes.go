package sample

import (
	"math"

	"parallax/api"
)

// mostBlocks is how many blocks of instructions may stand in one another.
const mostBlocks = 3

// Codes makes codes that are sound, and tells which one is main.
func Codes(pick Pick) ([]api.Code, int) {
	l := make([]api.Code, 1+pick(4))
	main := pick(len(l))
	for k := range l {
		if k != main {
			l[k].Params = of(pick, 0, 0, 1, 2, 3, api.MaxParams)
			l[k].Answers = pick(2) == 0
		}
		l[k].Cells = l[k].Params + pick(7)
	}
	for k := range l {
		w := coder{pick: pick, codes: l, number: k}
		w.whole()
		l[k].Ins = w.ins
	}
	return l, main
}

// coder makes the instructions of a code; the stack has so many numbers.
type coder struct {
	pick   Pick
	codes  []api.Code
	number int
	ins    []api.Ins
	height int
	blocks int
}

func (w *coder) put(op int, n, m int64) int {
	w.ins = append(w.ins, api.Ins{Op: op, N: n, M: m})
	return len(w.ins) - 1
}

// here is the place that comes.
func (w *coder) here() int64 { return int64(len(w.ins)) }

// lands lets a jump lead to the place that comes.
func (w *coder) lands(jump int) { w.ins[jump].N = w.here() }

func (w *coder) whole() {
	w.put(api.OpMark, 0, api.MEnter)
	w.rows(1 + w.pick(8))
	w.leave()
	for range w.pick(3) {
		w.junk()
	}
}

func (w *coder) leave() {
	w.put(api.OpMark, int64(9+w.pick(2)), api.MLeave)
	if !w.codes[w.number].Answers {
		w.put(api.OpLeave, 0, 0)
		return
	}
	w.value(2)
	w.put(api.OpLeave, 1, 0)
	w.height--
}

// rows makes instructions behind which the stack is as it was ahead.
func (w *coder) rows(n int) {
	for range n {
		if w.height == 0 && w.pick(2) == 0 {
			w.put(api.OpMark, int64(1+w.pick(8)), api.MStmt)
		}
		w.row()
	}
}

func (w *coder) row() {
	n := w.pick(16)
	if w.blocks < mostBlocks {
		switch n {
		case 0:
			w.block(w.loop)
			return
		case 1, 2:
			w.block(w.choice)
			return
		case 3:
			w.block(w.held)
			return
		}
	}
	switch n {
	case 4, 5:
		w.call()
	case 6:
		w.hole()
	case 7:
		w.clear()
	case 8, 9:
		w.element()
	default:
		w.value(w.pick(4))
		w.take()
	}
}

func (w *coder) block(rows func()) {
	w.blocks++
	rows()
	w.blocks--
}

// loop makes what is gone through again and again, with a mark where one may be, so that it comes to an end.
func (w *coder) loop() {
	begin := w.here()
	if w.height == 0 {
		w.put(api.OpMark, int64(w.pick(9)), api.MStmt)
	} else {
		w.put(api.OpRead, 0, 0)
		w.put(api.OpDrop, 0, 0)
	}
	w.value(2)
	over := w.put(api.OpZero, 0, 0)
	w.height--
	w.rows(w.pick(3))
	w.put(api.OpJump, begin, 0)
	w.lands(over)
}

func (w *coder) choice() {
	w.value(2)
	no := w.put(api.OpZero, 0, 0)
	w.height--
	w.rows(w.pick(3))
	if w.height == 0 && w.pick(4) == 0 {
		w.leave()
		w.lands(no)
		return
	}
	end := w.put(api.OpJump, 0, 0)
	w.lands(no)
	w.rows(w.pick(3))
	w.lands(end)
}

// held makes instructions while a number more is on the stack.
func (w *coder) held() {
	w.value(1)
	w.rows(w.pick(3))
	w.take()
}

// hole makes a jump, with instructions behind it that can not be reached.
func (w *coder) hole() {
	over := w.put(api.OpJump, 0, 0)
	for range w.pick(4) {
		w.junk()
	}
	w.lands(over)
}

// junk makes any instruction of those that may stand anywhere.
func (w *coder) junk() {
	switch op := of(w.pick, api.OpPush, api.OpAdd, api.OpMod, api.OpNot, api.OpPrint, api.OpTest, api.OpMark, api.OpDrop, api.OpJump, api.OpZero); op {
	case api.OpPush:
		w.put(op, w.constant(), 0)
	case api.OpMark:
		w.put(op, int64(w.pick(9)), int64(1+w.pick(3)))
	case api.OpJump, api.OpZero:
		w.put(op, int64(w.pick(len(w.ins))), 0)
	default:
		w.put(op, 0, 0)
	}
}

func (w *coder) constant() int64 {
	if w.pick(8) == 0 {
		return of[int64](w.pick, math.MinInt64, math.MaxInt64, -1, 1<<32, math.MinInt64+1, 64)
	}
	return int64(w.pick(5))
}

// value puts one number more on the stack.
func (w *coder) value(size int) {
	if size > 0 && w.pick(3) > 0 {
		w.reckoned(size - 1)
		return
	}
	cells := w.codes[w.number].Cells
	switch {
	case cells > 0 && w.pick(2) == 0:
		w.put(api.OpLoad, int64(w.pick(cells)), 0)
	case w.pick(8) == 0:
		w.put(api.OpRead, 0, 0)
	default:
		w.put(api.OpPush, w.constant(), 0)
	}
	w.height++
}

func (w *coder) reckoned(size int) {
	w.value(size)
	if w.pick(4) == 0 {
		w.put(of(w.pick, api.OpNot, api.OpNeg), 0, 0)
		return
	}
	op := of(w.pick, api.OpAdd, api.OpSub, api.OpMul, api.OpLess, api.OpMost, api.OpSame, api.OpDiv, api.OpMod)
	if divides := op == api.OpDiv || op == api.OpMod; divides && w.pick(4) > 0 {
		w.put(api.OpPush, of[int64](w.pick, 1, 2, 3, -1), 0)
		w.height++
	} else {
		w.value(size)
	}
	w.put(op, 0, 0)
	w.height--
}

// take takes a number from the stack.
func (w *coder) take() {
	cells := w.codes[w.number].Cells
	switch n := w.pick(8); {
	case n == 0:
		w.put(api.OpDrop, 0, 0)
	case n == 1:
		w.put(api.OpZero, w.here()+1, 0)
	case n == 2 && w.pick(3) == 0:
		w.put(api.OpTest, 0, 0)
	case n < 6 && cells > 0:
		w.put(api.OpStore, int64(w.pick(cells)), 0)
	default:
		w.put(api.OpPrint, 0, 0)
	}
	w.height--
}

// span picks cells that stand side by side, if there are any.
func (w *coder) span() (first, size int64, ok bool) {
	cells := w.codes[w.number].Cells
	if cells == 0 {
		return 0, 0, false
	}
	from := w.pick(cells)
	return int64(from), int64(1 + w.pick(cells-from)), true
}

func (w *coder) clear() {
	if first, size, ok := w.span(); ok {
		w.put(api.OpClear, first, size)
	}
}

// element makes what puts a number into a cell that is reckoned, or reads it from there.
func (w *coder) element() {
	first, size, ok := w.span()
	if !ok {
		return
	}
	if w.pick(10) == 0 {
		w.value(1)
	} else {
		w.put(api.OpPush, int64(w.pick(int(size))), 0)
		w.height++
	}
	if w.pick(2) == 0 {
		w.put(api.OpIndex, first, size)
		w.take()
		return
	}
	w.value(1)
	w.put(api.OpPut, first, size)
	w.height -= 2
}

// call makes a call, as a rule of a code behind this one, so that most come to an end.
func (w *coder) call() {
	k := w.pick(len(w.codes))
	if k <= w.number && w.pick(6) > 0 {
		return
	}
	for range w.codes[k].Params {
		w.value(1)
	}
	w.put(api.OpCall, int64(k), int64(w.codes[k].Params))
	w.height -= w.codes[k].Params
	if w.codes[k].Answers {
		w.height++
		w.take()
	}
}
