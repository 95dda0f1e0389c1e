package session

import (
	"iter"
	"slices"

	"parallax/api"
	"parallax/decl"
	"parallax/vm"
)

// search looks for positions at which a side stops.
type search struct {
	*side
	watched [][]string // of each procedure, of each mark the name of the variable that its statement sets, if there is a watch of it
}

func searchOf(x *side) search {
	s := search{side: x}
	for _, p := range x.build.Prog.Procs {
		names := namesSet(p.Body)
		for i, name := range names {
			if !slices.Contains(x.watches, decl.Watch{Side: x.number, Proc: p.Name, Var: name}) {
				names[i] = ""
			}
		}
		names = append([]string{""}, names...)
		s.watched = append(s.watched, append(names, ""))
	}
	return s
}

// namesSet are the names of the variables that statements set, in order of marks. A var's is in scope only behind it, so that it is left out.
func namesSet(l []api.Stmt) []string {
	var names []string
	for _, s := range l {
		name := ""
		switch s.Kind {
		case api.SSet, api.SRead, api.SCall:
			name = s.Name
		}
		names = append(names, name)
		names = append(names, namesSet(s.Body)...)
		names = append(names, namesSet(s.Else)...)
	}
	return names
}

// next is the next position at which the side stops, or the last one.
func (s search) next() int {
	for p := range s.stops(s.Machine(), s.End()) {
		return p
	}
	return s.End()
}

// last is the last position ahead at which the side stops, or 0. It goes from copy to copy, the last one first, so that what is gone through is not the whole run where a stop is near.
func (s search) last() int {
	end := s.At()
	for _, start := range slices.Backward(s.Kept()) {
		if start >= end {
			continue
		}
		s.Seek(start)
		found := 0
		for p := range s.stops(s.Machine(), end) {
			found = p
		}
		if found > 0 {
			return found
		}
		end = start + 1 // whether the side stops at the copy is seen from the one ahead
	}
	return 0
}

// stops are the positions behind a machine's own, and ahead of an end, at which the side stops. The machine follows, a position behind.
func (s search) stops(behind *vm.Machine, end int) iter.Seq[int] {
	return func(yield func(int) bool) {
		here := behind.Copy()
		for here.Step() && here.Ticks() < end {
			tick, _ := here.Tick()
			stops := s.breaksAt(here, tick) || s.changed(behind, here, tick)
			if stops && !yield(here.Ticks()) {
				return
			}
			behind.Step()
		}
	}
}

// breaksAt tells whether a break stops a machine at a tick.
func (s search) breaksAt(here *vm.Machine, tick api.Tick) bool {
	proc, inside := s.build.Prog.Procs[tick.Proc].Name, s.inside(here, tick)
	for _, b := range s.breaks {
		if b.Mark == int64(tick.Mark) && b.Proc == proc && inside.holds(b.When) {
			return true
		}
	}
	return false
}

// changed tells whether a watch stops a machine at a tick, another machine being a position behind. There the tick's frame, if it is not one that was entered just now, has the mark of the tick ahead in the same call, and, whatever was called meanwhile, its values. Only what the statement of that mark sets can have changed.
func (s search) changed(behind, here *vm.Machine, tick api.Tick) bool {
	if len(s.watches) == 0 || tick.Kind == api.MEnter {
		return false
	}
	last, _ := behind.Tick()
	before := s.inside(behind, last)
	if last.Depth != tick.Depth { // what was called was left just now
		before = s.outside(behind, tick.Depth-1)
	}
	name := s.watched[before.proc][before.mark]
	return name != "" && before.differs(s.inside(here, tick), name)
}
