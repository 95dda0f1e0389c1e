package consts

import (
	"slices"

	"parallax/api"
	"parallax/flow"
	"parallax/live"
)

// unreached is what is known at a mark to which nothing has come.
func unreached(vars []api.Var) State {
	return State{Known: make([]bool, len(vars)), Nums: make([]int64, len(vars))}
}

// entered is what is known where a procedure is entered, the first variables being its parameters.
func entered(vars []api.Var, params int) State {
	s := unreached(vars)
	s.Reached = true
	for i, v := range vars {
		s.Known[i] = i >= params && !isArray(v)
	}
	return s
}

func copyOf(s State) State {
	s.Known, s.Nums = slices.Clone(s.Known), slices.Clone(s.Nums)
	return s
}

// put says what is known of a variable from now on.
func (s *State) put(i int, r reply) { s.Known[i], s.Nums[i] = r.kind == number, r.num }

// takes lets come what is known behind another mark, and tells whether that changes anything.
func (s *State) takes(from State) bool {
	if !s.Reached {
		*s = copyOf(from)
		return true
	}
	changed := false
	for i, known := range s.Known {
		if known && !(from.Known[i] && from.Nums[i] == s.Nums[i]) {
			s.put(i, reply{})
			changed = true
		}
	}
	return changed
}

// finder finds what is known at the marks of a procedure.
type finder struct {
	vars   []api.Var
	steps  []flow.Step
	states []State
}

// spread goes from mark to mark, from the first one on, as long as anything changes.
func (f *finder) spread() {
	waiting := []int{0}
look:
	for i := 0; ; i++ {
		if i == len(waiting) {
			break look
		}
		mark := waiting[i]
		behind, reached := f.behind(mark)
		for _, next := range reached {
			if f.states[next].takes(behind) {
				waiting = append(waiting, next)
			}
		}
	}
}

// behind is what is known behind a reached mark, and which of its next marks are reached.
func (f *finder) behind(mark int) (State, []int) {
	s, step := copyOf(f.states[mark]), f.steps[mark]
	k := knower{f.vars, mark, f.states[mark]}
	var first reply
	for i, x := range step.E {
		r := k.answer(x)
		if r.kind == traps {
			return State{}, nil
		}
		if i == 0 {
			first = r
		}
	}
	if i := live.Sets(step.Stmt, f.vars, mark); i >= 0 && !isArray(f.vars[i]) {
		s.put(i, given(step.Kind, first))
	}
	return s, k.reached(step, first)
}

// given is what is known of the variable that a statement of a kind sets.
func given(kind int, first reply) reply {
	switch kind {
	case api.SVar:
		return numbered(0)
	case api.SSet:
		return first
	}
	return reply{}
}

// reached are the next marks of a statement of which no expression traps, by the answer of the first one.
func (k knower) reached(s flow.Step, first reply) []int {
	switch s.Kind {
	case api.SIf, api.SWhile:
		if first == numbered(1) {
			return []int{s.Yes}
		}
		if first.kind == number {
			return []int{s.No}
		}
	case api.SAssert:
		if first == numbered(0) {
			return nil
		}
	case api.SPut:
		if k.outside(s.Name, first) {
			return nil
		}
	}
	return s.Next()
}
