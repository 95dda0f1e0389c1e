package calls

import (
	"cmp"
	"slices"

	"parallax/align"
	"parallax/api"
)

// answers stands in the place of a same's number.
const answers = -1

// boundary is two positions at which values are held against each other, and the procedures that are entered or left there.
type boundary struct {
	a, b         int
	procA, procB int
}

// reporter holds two runs against each other.
type reporter struct {
	a, b  *side
	sames []api.Pair
	found []Entry
}

// matched are the calls of the two runs that are matched by pairs of procedures, and whether that is truncated.
func (r *reporter) matched(pairs []api.Pair, limit int) ([]align.Pair, bool) {
	var l [][2]int
	for _, p := range pairs {
		l = append(l, [2]int{r.a.number(p.ProcA), r.b.number(p.ProcB)})
	}
	return Match(r.a.calls, r.b.calls, l, limit)
}

// boundaries are those of matched calls, in the order of the first run's positions. In the second run they have the same order: matched calls keep it, and so do those that they were made in.
func (r *reporter) boundaries(l []align.Pair) []boundary {
	var all []boundary
	for _, p := range l {
		x, y := r.a.calls[p.A], r.b.calls[p.B]
		all = append(all, boundary{x.Enter, y.Enter, x.Proc, y.Proc})
		if x.Leave > 0 && y.Leave > 0 {
			all = append(all, boundary{x.Leave, y.Leave, x.Proc, y.Proc})
		}
	}
	slices.SortFunc(all, func(x, y boundary) int { return cmp.Compare(x.a, y.a) })
	return all
}

// hold goes on to a boundary, and holds against each other what is declared to correspond there.
func (r *reporter) hold(x boundary) {
	r.a.goOn(x.a)
	r.b.goOn(x.b)
	p, q := r.a.proc(x.procA), r.b.proc(x.procB)
	for i, s := range r.sames {
		if s.ProcA == p.Name && s.ProcB == q.Name {
			r.compare(x, i, r.a.value(x.procA, s.VarA), r.b.value(x.procB, s.VarB))
		}
	}
	if p.Type == q.Type {
		r.compare(x, answers, r.a.answer(), r.b.answer())
	}
}

// compare puts an entry down, if there are two values and they differ.
func (r *reporter) compare(x boundary, same int, a, b []int64) {
	if len(a) > 0 && len(b) > 0 && !slices.Equal(a, b) {
		r.found = append(r.found, Entry{A: x.a, B: x.b, Same: same, ValA: a, ValB: b})
	}
}
