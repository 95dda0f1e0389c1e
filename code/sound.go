package code

import "parallax/api"

// maxHeight is how many numbers a stack may have.
const maxHeight = 4096

// unreached is the height of a place that can not be reached.
const unreached = -1

// moves are how many numbers operations take from the stack, and how many they leave on it. Those of a call and a leave hang on the codes.
var moves = [api.MaxOp + 1][2]int{
	api.OpPush: {0, 1}, api.OpLoad: {0, 1}, api.OpStore: {1, 0},
	api.OpIndex: {1, 1}, api.OpPut: {2, 0}, api.OpClear: {0, 0},
	api.OpAdd: {2, 1}, api.OpSub: {2, 1}, api.OpMul: {2, 1}, api.OpDiv: {2, 1}, api.OpMod: {2, 1},
	api.OpLess: {2, 1}, api.OpMost: {2, 1}, api.OpSame: {2, 1}, api.OpNot: {1, 1}, api.OpNeg: {1, 1},
	api.OpJump: {0, 0}, api.OpZero: {1, 0},
	api.OpPrint: {1, 0}, api.OpRead: {0, 1}, api.OpTest: {1, 0}, api.OpMark: {0, 0}, api.OpDrop: {1, 0},
}

// Sound tells whether codes are sound.
func Sound(l []api.Code, main int) bool {
	if len(l) > api.MaxProcs || main < 0 || main >= len(l) {
		return false
	}
	if l[main].Params != 0 || l[main].Answers {
		return false
	}
	for k := range l {
		if _, ok := Heights(l, k); !ok {
			return false
		}
	}
	return true
}

// Heights are the heights of a code.
func Heights(l []api.Code, k int) ([]int, bool) {
	if k < 0 || k >= len(l) {
		return nil, false
	}
	c := climber{codes: l, Code: l[k]}
	if !c.hasSizes() || !c.hasForms() || !c.climb() {
		return nil, false
	}
	return c.heights, true
}

// climber finds the heights of a code that stands among others. Those places wait that are reached, and from which it has not gone on yet.
type climber struct {
	codes []api.Code
	api.Code
	heights []int
	waiting []int
}

// hasSizes tells whether the code has as much of everything as it may.
func (c *climber) hasSizes() bool {
	return 1 <= len(c.Ins) && len(c.Ins) <= api.MaxCode &&
		0 <= c.Cells && c.Cells <= api.MaxCells &&
		0 <= c.Params && c.Params <= min(api.MaxParams, c.Cells)
}

// hasForms tells whether all its instructions are such as may be, those that can not be reached among them.
func (c *climber) hasForms() bool {
	for _, i := range c.Ins {
		if !hasLine(i) || !c.allows(i) {
			return false
		}
	}
	return true
}

// allows tells whether N and M, where an instruction has them, are such as they may be.
func (c *climber) allows(i api.Ins) bool {
	switch i.Op {
	case api.OpLoad, api.OpStore:
		return c.hasCells(i.N, 1)
	case api.OpIndex, api.OpPut, api.OpClear:
		return 1 <= i.M && i.M <= api.MaxSize && c.hasCells(i.N, i.M)
	case api.OpJump, api.OpZero:
		return 0 <= i.N && i.N < int64(len(c.Ins))
	case api.OpCall:
		return c.mayCall(i)
	case api.OpLeave:
		return i.N == int64(answers(c.Code))
	case api.OpMark:
		return i.N >= 0 && api.MEnter <= i.M && i.M <= api.MLeave
	}
	return true
}

// hasCells tells whether there are so many cells, few, from the first one on.
func (c *climber) hasCells(first, size int64) bool {
	return 0 <= first && first <= int64(c.Cells)-size
}

// mayCall tells whether a call is of a code, with what that one is given. Others may have any Params here; fewer than none can not be handed over.
func (c *climber) mayCall(i api.Ins) bool {
	return 0 <= i.N && i.N < int64(len(c.codes)) && i.M >= 0 && i.M == int64(c.codes[i.N].Params)
}

// answers is how many numbers a code leaves to the one that called it.
func answers(c api.Code) int {
	if c.Answers {
		return 1
	}
	return 0
}

// climb fills in the heights, from place 0 on, and tells whether they fit.
func (c *climber) climb() bool {
	c.heights = make([]int, len(c.Ins))
	for place := range c.heights {
		c.heights[place] = unreached
	}
	fits := c.reach(0, 0)
waiting:
	for len(c.waiting) > 0 {
		place := c.waiting[len(c.waiting)-1]
		c.waiting = c.waiting[:len(c.waiting)-1]
		i, height := c.Ins[place], c.heights[place]
		takes, leaves := c.moves(i)
		if height < takes || mustBeBare(i) && height != takes {
			fits = false
			break waiting
		}
		if i.Op == api.OpLeave {
			continue waiting
		}
		for _, next := range behind(i, place) {
			if !c.reach(next, height-takes+leaves) {
				fits = false
				break waiting
			}
		}
	}
	return fits
}

// moves are how many numbers an instruction takes, and how many it leaves.
func (c *climber) moves(i api.Ins) (takes, leaves int) {
	switch i.Op {
	case api.OpCall:
		return int(i.M), answers(c.codes[i.N])
	case api.OpLeave:
		return int(i.N), 0
	}
	return moves[i.Op][0], moves[i.Op][1]
}

// mustBeBare tells whether the stack may have no more than what an instruction takes.
func mustBeBare(i api.Ins) bool { return i.Op == api.OpLeave || i.Op == api.OpMark }

// behind are the two places that may come next of an instruction that is no leave; of most these are one.
func behind(i api.Ins, place int) [2]int {
	switch i.Op {
	case api.OpJump:
		return [2]int{int(i.N), int(i.N)}
	case api.OpZero:
		return [2]int{place + 1, int(i.N)}
	}
	return [2]int{place + 1, place + 1}
}

// reach comes to a place at a height, and tells whether that may be.
func (c *climber) reach(place, height int) bool {
	if place >= len(c.Ins) || height > maxHeight {
		return false
	}
	if c.heights[place] == unreached {
		c.heights[place] = height
		c.waiting = append(c.waiting, place)
	}
	return c.heights[place] == height
}
