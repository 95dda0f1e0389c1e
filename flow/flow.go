// Package flow lays a procedure's statements out by their marks, each with what comes next of it (see shared/doc/06-live.md). It does so for all marks at once: those that ask for one of them ask for every one.
package flow

import "parallax/api"

// Nowhere is what comes next of where a procedure is left.
const Nowhere = -1

// Step is what there is at a mark: a copy of its statement without the blocks, whose statements have steps of their own (where the procedure is entered or left there is none), and the marks that come next, if its expression holds and if not; they are one but of an if or a while.
type Step struct {
	api.Stmt
	Yes, No int
}

// Next are the marks that come next, rising, each once.
func (s Step) Next() []int {
	switch {
	case s.Yes == Nowhere:
		return nil
	case s.Yes == s.No:
		return []int{s.Yes}
	}
	return []int{min(s.Yes, s.No), max(s.Yes, s.No)}
}

// Steps are those of all marks of a procedure, in order.
func Steps(p api.Proc) []Step {
	var l layout
	l.add(api.Stmt{})
	l.number(p.Body)
	leave := l.add(api.Stmt{})
	l.goes(0, 1, 1)
	l.goes(leave, Nowhere, Nowhere)
	l.join(p.Body, 1, leave)
	return l.steps
}

// layout is how far the statements have been laid out: of each mark ends has the first ones behind its Body, and behind its Else. What comes behind a statement hangs on its end, which is not known before those in its blocks are numbered.
type layout struct {
	steps []Step
	ends  [][2]int
}

func (l *layout) add(s api.Stmt) int {
	s.E, s.Body, s.Else = copied(s.E), nil, nil
	l.steps = append(l.steps, Step{Stmt: s})
	l.ends = append(l.ends, [2]int{})
	return len(l.steps) - 1
}

func copied(l []api.Expr) []api.Expr {
	var all []api.Expr
	for _, x := range l {
		x.L = copied(x.L)
		all = append(all, x)
	}
	return all
}

// number gives statements their marks.
func (l *layout) number(block []api.Stmt) {
	for _, s := range block {
		mark := l.add(s)
		l.number(s.Body)
		body := len(l.steps)
		l.number(s.Else)
		l.ends[mark] = [2]int{body, len(l.steps)}
	}
}

func (l *layout) goes(mark, yes, no int) { l.steps[mark].Yes, l.steps[mark].No = yes, no }

// join says what comes next of the statements of a block, the first one at a mark, if that comes behind the last one.
func (l *layout) join(block []api.Stmt, mark, last int) {
	for i, s := range block {
		other, end := l.ends[mark][0], l.ends[mark][1]
		behind := end
		if i == len(block)-1 {
			behind = last
		}
		inner := behind
		switch s.Kind {
		case api.SIf:
			l.goes(mark, first(s.Body, mark+1, behind), first(s.Else, other, behind))
		case api.SWhile:
			inner = mark
			l.goes(mark, first(s.Body, mark+1, mark), behind)
		case api.SReturn:
			l.goes(mark, len(l.steps)-1, len(l.steps)-1)
		default:
			l.goes(mark, behind, behind)
		}
		l.join(s.Body, mark+1, inner)
		l.join(s.Else, other, behind)
		mark = end
	}
}

// first is the mark of a block's first statement, or, if there is none, what comes instead.
func first(block []api.Stmt, mark, instead int) int {
	if len(block) == 0 {
		return instead
	}
	return mark
}
