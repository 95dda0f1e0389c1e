package vm_test

import (
	"math/big"
	"slices"
	"strings"

	"parallax/api"
	"parallax/code"
)

// A second reading of the chapter, for tests against many codes: instructions by their words, integers of any size that begin anew, frames with a stack of their own each, and all that is seen of a machine written down at once.

// view is what is seen of a machine.
type view struct {
	ticks  int
	tick   api.Tick
	events []api.Event
	frames []shape
	ended  bool
}

// shape is what is seen of a frame.
type shape struct {
	proc, mark int
	cells      []int64
}

type box struct {
	shape
	place int
	stack []*big.Int
}

// reader runs codes by the second reading.
type reader struct {
	codes []api.Code
	input []int64
	fuel  int
	boxes []*box
	now   view
}

// views are all that is seen of a machine: at first, at each tick, and when it has ended.
func views(l []api.Code, main int, input []int64, fuel int) []view {
	r := &reader{codes: l, input: input, fuel: fuel}
	r.open(main, nil)
	all := []view{r.seen()}
	for !r.now.ended {
		ticks := r.now.ticks
		for n := 1; !r.now.ended && r.now.ticks == ticks; n++ {
			r.run()
			if n == 1048576 && !r.now.ended && r.now.ticks == ticks {
				r.over(api.EvFuel, 0)
			}
		}
		all = append(all, r.seen())
	}
	return all
}

func (r *reader) seen() view {
	v := r.now
	v.events = slices.Clone(v.events)
	for _, b := range r.boxes {
		v.frames = append(v.frames, shape{b.proc, b.mark, slices.Clone(b.cells)})
	}
	return v
}

func (r *reader) open(proc int, given []*big.Int) {
	b := &box{shape: shape{proc, -1, nil}}
	for k := range r.codes[proc].Cells {
		var n int64
		if k < len(given) {
			n = given[k].Int64()
		}
		b.cells = append(b.cells, n)
	}
	r.boxes = append(r.boxes, b)
}

func (r *reader) event(kind int, n int64) {
	r.now.events = append(r.now.events, api.Event{Kind: kind, N: n})
}

func (r *reader) over(kind int, n int64) {
	r.event(kind, n)
	r.now.ended = true
}

// around is the one integer that differs by a multiple of 2^64.
func around(n *big.Int) *big.Int {
	m := new(big.Int).And(n, new(big.Int).SetUint64(1<<64-1))
	return big.NewInt(int64(m.Uint64()))
}

func number(b bool) *big.Int {
	if b {
		return big.NewInt(1)
	}
	return big.NewInt(0)
}

// taken is how many numbers the words take that are not told by N or M.
func taken(word string) int {
	switch {
	case strings.Contains(" add sub mul div mod less most same put ", " "+word+" "):
		return 2
	case strings.Contains(" store index not neg zero print test drop ", " "+word+" "):
		return 1
	}
	return 0
}

// run runs one instruction.
func (r *reader) run() {
	b := r.boxes[len(r.boxes)-1]
	i := r.codes[b.proc].Ins[b.place]
	line, _ := code.Text(i)
	word, _, _ := strings.Cut(line, " ")
	b.place++
	n := taken(word)
	switch word {
	case "call":
		n = int(i.M)
	case "leave":
		n = int(i.N)
	}
	x := slices.Clone(b.stack[len(b.stack)-n:])
	b.stack = b.stack[:len(b.stack)-n]
	switch word {
	case "jump":
		b.place = int(i.N)
	case "zero":
		if x[0].Sign() == 0 {
			b.place = int(i.N)
		}
	case "call", "leave", "mark":
		r.frames(b, word, i, x)
	case "print", "read", "test":
		r.outside(b, word, x)
	case "push", "load", "store", "index", "put", "clear":
		r.memory(b, word, i, x)
	case "drop":
	default:
		r.sum(b, word, x)
	}
}

func (r *reader) frames(b *box, word string, i api.Ins, x []*big.Int) {
	switch {
	case word == "call" && len(r.boxes) == 50:
		r.over(api.EvTrap, api.TrapDepth)
	case word == "call":
		r.open(int(i.N), x)
	case word == "leave":
		r.boxes = r.boxes[:len(r.boxes)-1]
		if len(r.boxes) == 0 {
			r.over(api.EvEnd, 0)
			return
		}
		ahead := r.boxes[len(r.boxes)-1]
		ahead.stack = append(ahead.stack, x...)
	case r.fuel == 0:
		r.over(api.EvFuel, 0)
	default:
		r.fuel--
		b.mark = int(i.N)
		r.now.ticks++
		r.now.tick = api.Tick{Kind: int(i.M), Proc: b.proc, Mark: int(i.N), Depth: len(r.boxes)}
	}
}

func (r *reader) outside(b *box, word string, x []*big.Int) {
	switch {
	case word == "print":
		r.event(api.EvPrint, x[0].Int64())
	case word == "test" && x[0].Sign() == 0:
		r.over(api.EvTrap, api.TrapAssert)
	case word == "read" && len(r.input) == 0:
		r.over(api.EvTrap, api.TrapInput)
	case word == "read":
		b.stack = append(b.stack, big.NewInt(r.input[0]))
		r.event(api.EvRead, r.input[0])
		r.input = r.input[1:]
	}
}

func (r *reader) memory(b *box, word string, i api.Ins, x []*big.Int) {
	at := i.N
	if word == "index" || word == "put" {
		if x[0].Sign() < 0 || x[0].Cmp(big.NewInt(i.M)) >= 0 {
			r.over(api.EvTrap, api.TrapIndex)
			return
		}
		at += x[0].Int64()
	}
	switch word {
	case "push":
		b.stack = append(b.stack, big.NewInt(i.N))
	case "load", "index":
		b.stack = append(b.stack, big.NewInt(b.cells[at]))
	case "store", "put":
		b.cells[at] = x[len(x)-1].Int64()
	case "clear":
		for k := range i.M {
			b.cells[at+k] = 0
		}
	}
}

func (r *reader) sum(b *box, word string, x []*big.Int) {
	n := new(big.Int)
	switch word {
	case "not":
		n = number(x[0].Sign() == 0)
	case "neg":
		n.Neg(x[0])
	case "add":
		n.Add(x[0], x[1])
	case "sub":
		n.Sub(x[0], x[1])
	case "mul":
		n.Mul(x[0], x[1])
	case "less":
		n = number(x[0].Cmp(x[1]) < 0)
	case "most":
		n = number(x[0].Cmp(x[1]) <= 0)
	case "same":
		n = number(x[0].Cmp(x[1]) == 0)
	default:
		if x[1].Sign() == 0 {
			r.over(api.EvTrap, api.TrapZero)
			return
		}
		if n.Quo(x[0], x[1]); word == "mod" {
			n.Rem(x[0], x[1])
		}
	}
	b.stack = append(b.stack, around(n))
}
