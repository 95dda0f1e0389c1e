package session

import (
	"math"

	"parallax/align"
	"parallax/api"
	"parallax/decl"
	"parallax/gen"
	"parallax/num"
	"parallax/replay"
	"parallax/view"
)

// atDepth is the Kind of a replay.Stop that is met at ticks which are not deeper than it says.
const atDepth = 3

// side is one of the programs, and where one is in its run.
type side struct {
	*replay.Engine
	build   gen.Build
	number  int
	breaks  []decl.Break
	watches []decl.Watch
}

func (x *side) name() string {
	if x.number == left {
		return "left"
	}
	return "right"
}

// tick is that of the position, if it is one of a tick.
func (x *side) tick() (api.Tick, bool) {
	m := x.Machine()
	tick, ticked := m.Tick()
	return tick, ticked && !m.Ended()
}

// where is the place's line.
func (x *side) where() []string {
	at, end := num.Text(int64(x.At())), num.Text(int64(x.End()))
	return []string{num.Join(x.name(), at, "of", end+":", x.here())}
}

// here is what there is at the position.
func (x *side) here() string {
	tick, ok := x.tick()
	switch {
	case ok:
		line, _ := view.Tick(x.build.Prog, tick) // it is a tick of this program
		return line
	case x.At() == 0:
		return "begin"
	}
	return "over"
}

// goTo goes to a position.
func (x *side) goTo(p int) []string {
	if e := x.Seek(p); e != api.OK {
		return failed(e)
	}
	return x.where()
}

// shallow is the stop at ticks that are less deep than the position by so much, or even less; at any, if there is no tick.
func (x *side) shallow(less int) replay.Stop {
	tick, ok := x.tick()
	if !ok {
		return replay.Stop{Kind: atDepth, N: math.MaxInt}
	}
	return replay.Stop{Kind: atDepth, N: tick.Depth - less}
}

func (x *side) stack() []string {
	return orNone(view.Stack(x.build, x.Machine()))
}

func (x *side) events() []string {
	var lines []string
	for _, e := range x.Machine().Events() {
		lines = append(lines, align.Text(e))
	}
	return orNone(lines)
}

// all are the events of the whole run.
func (x *side) all() []api.Event {
	m := x.Machine()
	for m.Step() {
	}
	return m.Events()
}

func orNone(lines []string) []string {
	if len(lines) == 0 {
		return []string{none}
	}
	return lines
}

// list is rows of the program about the last frame's mark. A frame that has not ticked yet has a mark without a row.
func (x *side) list(n int) []string {
	m := x.Machine()
	proc, mark, _, ok := m.Frame(m.Frames() - 1)
	if !ok {
		return []string{none}
	}
	if n < 0 {
		return failed(api.ErrArg)
	}
	rows, e := view.List(x.build.Prog)
	if e != api.OK {
		return failed(e)
	}
	lines, e := view.Show(rows, view.Find(rows, proc, mark), n)
	if e != api.OK {
		return failed(e)
	}
	return lines
}
