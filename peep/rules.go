package peep

import (
	"parallax/api"
	"parallax/num"
)

// lastRule is the number of the last rule in the chapter's list.
const lastRule = 12

// change is what a rule does: how many instructions it takes, and what it puts in their place. An Op of 0 puts nothing there.
type change struct {
	rule  int
	takes int
	puts  api.Ins
}

// window is what the rules ask of a place.
type window struct {
	i, j, k api.Ins // j and k without an Op, where they are targets or there is none
	reached bool
	next    int     // the place behind
	target  int     // where i leads
	there   api.Ins // the instruction at the target
	beyond  int     // where that one leads
}

// fits tells whether a rule fits, if none ahead of it in the list does, and what it does then.
func (w *window) fits(rule int) (change, bool) {
	i, j, k := w.i, w.j, w.k
	pushes := i.Op == api.OpPush
	switch rule {
	case 1:
		return out(1), !w.reached
	case 2:
		return out(1), i.Op == api.OpJump && w.target == w.next
	case 3:
		return put(1, api.Ins{Op: api.OpDrop}), i.Op == api.OpZero && w.target == w.next
	case 4:
		return put(1, api.Ins{Op: i.Op, N: w.there.N}), leads(i) && w.there.Op == api.OpJump && w.beyond > w.target
	case 5:
		n, ok := turned(j.Op, i.N)
		return put(2, push(n)), pushes && ok
	case 6:
		n, ok := joined(k.Op)(i.N, j.N)
		return put(3, push(n)), pushes && j.Op == api.OpPush && ok
	case 7:
		return out(2), (pushes || i.Op == api.OpLoad) && j.Op == api.OpDrop
	case 8:
		return out(2), pushes && idle(j.Op, i.N)
	case 9:
		return out(2), i.Op == api.OpLoad && j.Op == api.OpStore && i.N == j.N
	case 10:
		if i.N == 0 {
			return put(2, api.Ins{Op: api.OpJump, N: j.N}), pushes && j.Op == api.OpZero
		}
		return out(2), pushes && j.Op == api.OpZero
	case 11:
		return out(2), pushes && i.N != 0 && j.Op == api.OpTest
	case lastRule:
		return put(2, api.Ins{Op: api.OpClear, N: i.N, M: i.M + j.M}), i.Op == api.OpClear && j.Op == api.OpClear && i.N+i.M == j.N && i.M+j.M <= api.MaxSize
	}
	return change{}, false
}

// out leaves instructions out.
func out(takes int) change { return change{takes: takes} }

// put puts an instruction in the place of others.
func put(takes int, i api.Ins) change { return change{takes: takes, puts: i} }

func push(n int64) api.Ins { return api.Ins{Op: api.OpPush, N: n} }

// leads tells whether an instruction leads to a place of its own.
func leads(i api.Ins) bool { return i.Op == api.OpJump || i.Op == api.OpZero }

// turned is what an operation leaves of one number, if it takes one and leaves one.
func turned(op int, a int64) (int64, bool) {
	switch op {
	case api.OpNeg:
		return num.Neg(a), true
	case api.OpNot:
		return truth(a == 0), true
	}
	return 0, false
}

// joined tells what an operation leaves of two numbers, if it leaves anything of them.
func joined(op int) func(a, b int64) (int64, bool) {
	switch op {
	case api.OpAdd:
		return always(num.Add)
	case api.OpSub:
		return always(num.Sub)
	case api.OpMul:
		return always(num.Mul)
	case api.OpDiv:
		return unlessWrong(num.Div)
	case api.OpMod:
		return unlessWrong(num.Mod)
	case api.OpLess:
		return whether(func(a, b int64) bool { return a < b })
	case api.OpMost:
		return whether(func(a, b int64) bool { return a <= b })
	case api.OpSame:
		return whether(func(a, b int64) bool { return a == b })
	}
	return func(a, b int64) (int64, bool) { return 0, false }
}

func always(join func(a, b int64) int64) func(a, b int64) (int64, bool) {
	return func(a, b int64) (int64, bool) { return join(a, b), true }
}

// unlessWrong leaves nothing where a machine would trap.
func unlessWrong(join func(a, b int64) (int64, api.Errno)) func(a, b int64) (int64, bool) {
	return func(a, b int64) (int64, bool) {
		n, e := join(a, b)
		return n, e == api.OK
	}
}

func whether(holds func(a, b int64) bool) func(a, b int64) (int64, bool) {
	return func(a, b int64) (int64, bool) { return truth(holds(a, b)), true }
}

func truth(holds bool) int64 {
	if holds {
		return 1
	}
	return 0
}

// idle tells whether an operation leaves any number as it is, if the other one, on top, is n.
func idle(op int, n int64) bool {
	switch op {
	case api.OpAdd, api.OpSub:
		return n == 0
	case api.OpMul, api.OpDiv:
		return n == 1
	}
	return false
}
