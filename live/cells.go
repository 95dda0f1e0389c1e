package live

import (
	"cmp"
	"math"
	"slices"

	"parallax/api"
	"parallax/flow"
)

// teller tells which variables can be told; always are those that are not asked whether they are needed.
type teller struct {
	vars   []api.Var
	always set
	needed []set
}

// at are those that can be told at a mark.
func (t *teller) at(mark int) set { return t.told(mark, t.needed[mark]) }

// over are those that can be told while a call at a mark lasts.
func (t *teller) over(mark int, s flow.Step) set {
	if s.Kind != api.SCall {
		return set{}
	}
	wanted := t.needed[s.Yes]
	wanted.drop(Sets(s.Stmt, t.vars, mark))
	return t.told(mark, wanted)
}

// told are those in scope at a mark that are wanted, or told always.
func (t *teller) told(mark int, wanted set) set {
	var s set
	for i, v := range t.vars {
		if v.From <= mark && mark <= v.To && (wanted.has(i) || t.always.has(i)) {
			s.put(i)
		}
	}
	return s
}

// meetings has of each variable those with which it meets.
type meetings struct {
	sets [api.MaxVars]set
	last set
}

// add takes variables that can be told at once.
func (m *meetings) add(told set) {
	if told == m.last || told == (set{}) { // as a rule it is the same from mark to mark
		return
	}
	m.last = told
	for i, in := range told {
		if in {
			m.sets[i].join(told)
		}
	}
}

func (m *meetings) with(i, j int) bool { return i < len(m.sets) && m.sets[i].has(j) }

// span is the cells from the first one to the one ahead of end.
type span struct{ first, end int }

// spanFrom is the cells of a variable that lies from one on; sizes that no variable has make no sum beyond an int.
func spanFrom(first int, v api.Var) span {
	return span{first, first + min(width(v), math.MaxInt-first)}
}

func width(v api.Var) int { return max(v.Size, 1) }

// cells are where variables lie, the first ones being parameters, and how many cells they take in all.
func cells(vars []api.Var, params int, apart func(i, j int) bool) ([]int, int) {
	var spans []span
	var firsts []int
	size := 0
	for i, v := range vars {
		first := i
		if i >= params {
			first = lowest(width(v), taken(spans, func(j int) bool { return apart(i, j) }))
		}
		s := spanFrom(first, v)
		spans = append(spans, s)
		firsts = append(firsts, first)
		size = max(size, s.end)
	}
	return firsts, size
}

// taken are the spans of those that must lie apart, in order of cells.
func taken(spans []span, apart func(j int) bool) []span {
	var l []span
	for j, s := range spans {
		if apart(j) {
			l = append(l, s)
		}
	}
	slices.SortFunc(l, func(a, b span) int { return cmp.Compare(a.first, b.first) })
	return l
}

// lowest is the lowest cell from which on so many are free.
func lowest(width int, taken []span) int {
	cell := 0
	for _, s := range taken {
		if s.first-cell >= width {
			break
		}
		cell = max(cell, s.end)
	}
	return cell
}
