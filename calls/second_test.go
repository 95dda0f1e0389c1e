package calls_test

import (
	"slices"
	"testing"

	"parallax/align"
	"parallax/api"
	"parallax/calls"
	"parallax/check"
	"parallax/decl"
	"parallax/fold"
)

// A second reading of the chapter: ticks are asked one by one whether what stands ahead of them lets them stand, calls are found by looking back and ahead from their ticks, matchings are picked among all that there are, and values are those of the histories (5), which no build plays a part in.

// standing are the procedures of the calls that were entered and not left by some ticks.
func standing(l []api.Tick) []int {
	var open []int
	for _, x := range l {
		switch x.Kind {
		case api.MEnter:
			open = append(open, x.Proc)
		case api.MLeave:
			open = open[:len(open)-1]
		}
	}
	return open
}

// isRun tells whether ticks are a run's.
func isRun(l []api.Tick) bool {
	if len(l) == 0 || l[0].Kind != api.MEnter || l[0].Depth != 1 {
		return false
	}
	for i, x := range l[1:] {
		open := standing(l[:i+1])
		if len(open) == 0 {
			return false
		}
		inside := x.Depth == len(open) && x.Proc == open[len(open)-1]
		deeper := x.Depth == len(open)+1
		if !(x.Kind == api.MEnter && deeper || x.Kind == api.MStmt && inside || x.Kind == api.MLeave && inside) {
			return false
		}
	}
	return true
}

// secondTree is the calls of a run's ticks.
func secondTree(l []api.Tick) []calls.Call {
	var all []calls.Call
	number := map[int]int{} // of the call that is entered at a position
	for i, x := range l {
		if x.Kind != api.MEnter {
			continue
		}
		c := calls.Call{Proc: x.Proc, Enter: i + 1, Up: -1}
		for k := i + 1; k < len(l) && c.Leave == 0; k++ {
			if l[k].Kind == api.MLeave && l[k].Depth == x.Depth {
				c.Leave = k + 1
			}
		}
		for k := i - 1; k >= 0 && c.Up < 0; k-- {
			if l[k].Kind == api.MEnter && l[k].Depth == x.Depth-1 {
				c.Up = number[k+1]
			}
		}
		number[i+1] = len(all)
		all = append(all, c)
	}
	return all
}

// secondPairs are the pairs that count.
func secondPairs(l [][2]int) [][2]int {
	var all [][2]int
	for _, p := range l {
		if !slices.ContainsFunc(all, func(q [2]int) bool { return q[0] == p[0] || q[1] == p[1] }) {
			all = append(all, p)
		}
	}
	return all
}

// better tells whether a matching is greater than another one, or as great and less.
func better(x, y []align.Pair) bool {
	if len(x) != len(y) {
		return len(x) > len(y)
	}
	return slices.CompareFunc(x, y, func(p, q align.Pair) int {
		if p.A != q.A {
			return p.A - q.A
		}
		return p.B - q.B
	}) < 0
}

// best is the least of the greatest matchings of what stands from i on in a row of n, and from j on in one of m.
func best(i, j, n, m int, same func(i, j int) bool, known map[[2]int][]align.Pair) []align.Pair {
	if l, ok := known[[2]int{i, j}]; ok {
		return l
	}
	var found []align.Pair
	for x := i; x < n; x++ {
		for y := j; y < m; y++ {
			if same(x, y) {
				l := append([]align.Pair{{A: x, B: y}}, best(x+1, y+1, n, m, same, known)...)
				if better(l, found) {
					found = l
				}
			}
		}
	}
	known[[2]int{i, j}] = found
	return found
}

// secondMatch is a matching of calls.
func secondMatch(a, b []calls.Call, pairs [][2]int, limit int) ([]align.Pair, bool) {
	l := secondPairs(pairs)
	same := func(i, j int) bool { return slices.Contains(l, [2]int{a[i].Proc, b[j].Proc}) }
	if len(a) == 0 || len(b) == 0 || !same(0, 0) {
		return nil, false
	}
	var all []align.Pair
	cut := false
	var enter func(i, j int)
	enter = func(i, j int) {
		all = append(all, align.Pair{A: i, B: j})
		x, y := made(a, i), made(b, j)
		k := 0
		for k < min(len(x), len(y)) && same(x[k], y[k]) {
			enter(x[k], y[k])
			k++
		}
		if n, m := len(x)-k, len(y)-k; n*m > limit && n*m > 0 {
			cut = true
			return
		}
		beside := func(i, j int) bool { return same(x[i], y[j]) }
		for _, p := range best(k, k, len(x), len(y), beside, map[[2]int][]align.Pair{}) {
			enter(x[p.A], y[p.B])
		}
	}
	enter(0, 0)
	slices.SortFunc(all, func(p, q align.Pair) int { return p.A - q.A })
	return all, cut
}

// made are the calls that were made in one.
func made(l []calls.Call, k int) []int {
	var all []int
	for i := range l {
		if l[i].Up == k {
			all = append(all, i)
		}
	}
	return all
}

// past is a program and its history.
type past struct {
	api.Prog
	check.Info
	fold.History
}

func pastOf(t *testing.T, p api.Prog, input []int64, fuel int) past {
	t.Helper()
	info, _, e := check.Check(p)
	h, f := fold.Run(p, input, fuel)
	if e != api.OK || f != api.OK {
		t.Fatalf("Check: %d, Run: %d", e, f)
	}
	return past{p, info, h}
}

func (x past) ticks() []api.Tick {
	var l []api.Tick
	for _, p := range x.Pos {
		l = append(l, p.Tick)
	}
	return l
}

// last is the last frame at a position.
func (x past) last(position int) fold.Frame {
	l := x.Pos[position-1].Frames
	return l[len(l)-1]
}

// value is a variable's, if it is in scope.
func (x past) value(position int, name string) ([]int64, bool) {
	f := x.last(position)
	for i, v := range x.Vars[f.Proc] {
		if v.Name == name {
			return f.Vals[i], v.From <= f.Mark && f.Mark <= v.To
		}
	}
	return nil, false
}

// answer is what a call answers that is left at a position: what the return is worth that stands ahead.
func (x past) answer(position int) ([]int64, bool) {
	f := x.last(position)
	if x.Procs[f.Proc].Type == api.None {
		return nil, false
	}
	at := x.last(position - 1)
	s, _ := check.Stmt(x.Procs[f.Proc], at.Mark)
	var env fold.Env
	for i, v := range x.Vars[f.Proc] {
		if v.From <= at.Mark && at.Mark <= v.To {
			var list []int64
			if v.Size > 0 {
				list = at.Vals[i]
			}
			env.Names, env.Vals, env.Lists = append(env.Names, v.Name), append(env.Vals, at.Vals[i][0]), append(env.Lists, list)
		}
	}
	n, _ := fold.Eval(s.E[0], env)
	return []int64{n}, true
}

// secondReport is the report of two pasts.
func secondReport(a, b past, f decl.File, limit int) ([]calls.Entry, bool) {
	x, y := secondTree(a.ticks()), secondTree(b.ticks())
	var pairs [][2]int
	for i, p := range a.Procs {
		for j, q := range b.Procs {
			if slices.Contains(f.Pairs, api.Pair{ProcA: p.Name, ProcB: q.Name}) {
				pairs = append(pairs, [2]int{i, j})
			}
		}
	}
	l, cut := secondMatch(x, y, pairs, limit)
	var all []calls.Entry
	differ := func(at, to, same int, v, w []int64, held bool) {
		if held && !slices.Equal(v, w) {
			all = append(all, calls.Entry{A: at, B: to, Same: same, ValA: v, ValB: w})
		}
	}
	for position := range len(a.Pos) + 1 {
		for _, p := range l {
			c, d := x[p.A], y[p.B]
			to := d.Enter
			if c.Leave == position {
				to = d.Leave
			} else if c.Enter != position {
				continue
			}
			if position == 0 || to == 0 {
				continue
			}
			for i, s := range f.Sames {
				if s.ProcA == a.Procs[c.Proc].Name && s.ProcB == b.Procs[d.Proc].Name {
					v, ok := a.value(position, s.VarA)
					w, there := b.value(to, s.VarB)
					differ(position, to, i, v, w, ok && there)
				}
			}
			if c.Leave == position && a.Procs[c.Proc].Type == b.Procs[d.Proc].Type {
				v, ok := a.answer(position)
				w, there := b.answer(to)
				differ(position, to, -1, v, w, ok && there)
			}
		}
	}
	return all, cut
}
