package calls

import "parallax/api"

// tree is the calls of the ticks so far.
type tree struct {
	calls []Call
	open  []int // the numbers of those that were entered and not left, the outermost first
}

// takes tells whether a tick can be the next one of a run.
func (t *tree) takes(tick api.Tick) bool {
	deep := len(t.open)
	if deep == 0 && len(t.calls) > 0 { // the run is over
		return false
	}
	switch tick.Kind {
	case api.MEnter:
		return tick.Depth == deep+1
	case api.MStmt, api.MLeave:
		return deep > 0 && tick.Depth == deep && tick.Proc == t.calls[t.last()].Proc
	}
	return false
}

// last is the number of the call that was entered last and not left; -1, if there is none.
func (t *tree) last() int {
	if len(t.open) == 0 {
		return -1
	}
	return t.open[len(t.open)-1]
}

// put puts the tick of a position to the others.
func (t *tree) put(tick api.Tick, position int) {
	switch tick.Kind {
	case api.MEnter:
		t.calls = append(t.calls, Call{Proc: tick.Proc, Enter: position, Up: t.last()})
		t.open = append(t.open, len(t.calls)-1)
	case api.MLeave:
		t.calls[t.last()].Leave = position
		t.open = t.open[:len(t.open)-1]
	}
}
