package replay

import "sort"

// Kinds of stops.
const (
	atMark = iota + 1
	atEvents
	atDepth
	atKind
	atPosition
)

// met tells whether a stop is met where the engine is.
func (g *Engine) met(s Stop) bool {
	tick, ticked := g.machine.Tick()
	ticked = ticked && !g.machine.Ended()
	switch s.Kind {
	case atMark:
		return ticked && tick.Proc == s.Proc && tick.Mark == s.Mark
	case atEvents:
		return g.machine.Count() >= s.N
	case atDepth:
		return ticked && tick.Depth <= s.N
	case atKind:
		return ticked && tick.Kind == s.N
	case atPosition:
		return g.At() == s.N
	}
	return false
}

// span is from where to where a stop may be met, as far as that is known without a step: a search need not leave it. (From 1 to 0 is nowhere.)
func (g *Engine) span(s Stop) (int, int) {
	switch s.Kind {
	case atMark, atDepth, atKind:
		return 0, g.end
	case atEvents:
		if s.N <= g.events {
			return g.least(s.N), g.end
		}
	case atPosition:
		if 0 <= s.N && s.N <= g.end {
			return s.N, s.N
		}
	}
	return 1, 0
}

// least is a position ahead of which there are fewer than n events: the one behind the last of the copies, and of where the engine is, at which there are fewer.
func (g *Engine) least(n int) int {
	i := sort.Search(len(g.copies), func(i int) bool { return g.copies[i].machine.Count() >= n })
	p := 0
	if i > 0 {
		p = g.copies[i-1].at + 1
	}
	if g.machine.Count() < n {
		p = max(p, g.At()+1)
	}
	return p
}

// lastMet is the last position ahead of where the engine is at which a stop is met, and whether there is one (else 0). The search goes from copy to copy, the last one first, from each of them up to where it began before.
func (g *Engine) lastMet(s Stop) (int, bool) {
	from, to := g.span(s)
	to = min(to, g.At()-1)
	p, found := 0, false
search:
	for from <= to {
		start := g.ahead(to).at
		for g.goTo(start); ; g.step() {
			if g.met(s) {
				p, found = g.At(), true
			}
			switch {
			case g.At() < to:
			case found:
				break search
			default:
				to = start - 1
				continue search
			}
		}
	}
	return p, found
}
