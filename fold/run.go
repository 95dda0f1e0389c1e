package fold

import (
	"slices"

	"parallax/api"
	"parallax/check"
)

// routine is a procedure whose statements have their marks.
type routine struct {
	name  string
	vars  []api.Var
	steps []step
	marks int
}

// step is a statement at its mark.
type step struct {
	api.Stmt
	mark        int
	body, other []step
}

func routines(p api.Prog, info check.Info) []routine {
	var l []routine
	for i, q := range p.Procs {
		marks := 0
		l = append(l, routine{q.Name, info.Vars[i], stepsOf(q.Body, &marks), info.Marks[i]})
	}
	return l
}

// stepsOf gives statements the marks behind those that are given already.
func stepsOf(l []api.Stmt, marks *int) []step {
	var steps []step
	for _, s := range l {
		*marks++
		x := step{Stmt: s, mark: *marks}
		x.body = stepsOf(s.Body, marks)
		x.other = stepsOf(s.Else, marks)
		steps = append(steps, x)
	}
	return steps
}

// procedure is the number of that of a name.
func procedure(l []routine, name string) int {
	return slices.IndexFunc(l, func(q routine) bool { return q.name == name })
}

// flow says what comes behind a statement.
type flow int

const (
	on   flow = iota // the next one
	left             // the procedure is left
	over             // nothing: the run has ended
)

// active is a frame, and what its procedure answers.
type active struct {
	Frame
	answer int64
}

// runner is a run of a right program.
type runner struct {
	procs   []routine
	input   []int64
	fuel    int
	frames  []active
	history History
}

// whole runs the program to its end.
func (r *runner) whole() {
	if _, ok := r.called(procedure(r.procs, "main"), nil); ok {
		r.tell(api.EvEnd, 0)
	}
}

func (r *runner) tell(kind int, n int64) {
	r.history.Events = append(r.history.Events, api.Event{Kind: kind, N: n})
}

func (r *runner) trapped(trap int) flow {
	r.tell(api.EvTrap, int64(trap))
	return over
}

// called runs a procedure with these values of its parameters, and tells what it answers, if it comes to its end.
func (r *runner) called(proc int, params []int64) (int64, bool) {
	q := r.procs[proc]
	r.frames = append(r.frames, active{Frame: Frame{Proc: proc, Vals: cells(q.vars, params)}})
	if !r.marked(api.MEnter, 0) || r.block(q.steps) == over || !r.marked(api.MLeave, q.marks+1) {
		return 0, false
	}
	answer := r.top().answer
	r.frames = r.frames[:len(r.frames)-1]
	return answer, true
}

// cells are the values of variables at the beginning.
func cells(vars []api.Var, params []int64) [][]int64 {
	var l [][]int64
	for _, v := range vars {
		l = append(l, make([]int64, max(v.Size, 1)))
	}
	for i, n := range params {
		l[i][0] = n
	}
	return l
}

// top is the innermost frame, till another one is put on it.
func (r *runner) top() *active { return &r.frames[len(r.frames)-1] }

// marked puts a mark down, if there is fuel.
func (r *runner) marked(kind, mark int) bool {
	if r.fuel == 0 {
		r.tell(api.EvFuel, 0)
		return false
	}
	r.fuel--
	f := r.top()
	f.Mark = mark
	r.history.Pos = append(r.history.Pos, Pos{
		Tick:   api.Tick{Kind: kind, Proc: f.Proc, Mark: mark, Depth: len(r.frames)},
		Count:  len(r.history.Events),
		Frames: r.shown(),
	})
	return true
}

// shown are the frames as they are now.
func (r *runner) shown() []Frame {
	var l []Frame
	for _, f := range r.frames {
		vals := make([][]int64, len(f.Vals))
		for i, v := range f.Vals {
			vals[i] = slices.Clone(v)
		}
		l = append(l, Frame{f.Proc, f.Mark, vals})
	}
	return l
}

func (r *runner) block(l []step) flow {
	for _, s := range l {
		if f := r.step(s); f != on {
			return f
		}
	}
	return on
}

// step does a statement, beginning with its mark.
func (r *runner) step(s step) flow {
	if !r.marked(api.MStmt, s.mark) {
		return over
	}
	vals, trap := r.worths(s)
	if trap != 0 {
		return r.trapped(trap)
	}
	switch s.Kind {
	case api.SIf, api.SWhile:
		return r.branch(s, vals[0] == 1)
	case api.SCall:
		return r.call(s, vals)
	case api.SReturn:
		for _, n := range vals {
			r.top().answer = n
		}
		return left
	}
	return r.act(s, vals)
}

// worths are the worths of a statement's expressions, in order, up to the first trap.
func (r *runner) worths(s step) ([]int64, int) {
	names := func(name string) (int64, []int64) {
		c := r.variable(name)
		return c[0], c // a right program has an index behind arrays alone, and no array without one
	}
	var l []int64
	for _, x := range s.E {
		n, trap := worth(x, names)
		if trap != 0 {
			return nil, trap
		}
		l = append(l, n)
	}
	return l, 0
}

// variable is where the values of the procedure's variable of a name are. No two of them have one name, so that the mark plays no part.
func (r *runner) variable(name string) []int64 {
	f := r.top()
	i := slices.IndexFunc(r.procs[f.Proc].vars, func(v api.Var) bool { return v.Name == name })
	return f.Vals[i]
}

// branch does a block of an if or a while, and that one anew.
func (r *runner) branch(s step, holds bool) flow {
	if !holds {
		return r.block(s.other)
	}
	if f := r.block(s.body); f != on || s.Kind == api.SIf {
		return f
	}
	return r.step(s)
}

func (r *runner) call(s step, params []int64) flow {
	if len(r.frames) == api.MaxDepth {
		return r.trapped(api.TrapDepth)
	}
	answer, ok := r.called(procedure(r.procs, s.Proc), params)
	switch {
	case !ok:
		return over
	case s.Name != "":
		r.variable(s.Name)[0] = answer
	}
	return on
}

// act does a statement that changes values, or is seen from outside.
func (r *runner) act(s step, vals []int64) flow {
	switch s.Kind {
	case api.SVar:
		clear(r.variable(s.Name))
	case api.SSet:
		r.variable(s.Name)[0] = vals[0]
	case api.SPut:
		list := r.variable(s.Name)
		if !isPlace(vals[0], list) {
			return r.trapped(api.TrapIndex)
		}
		list[vals[0]] = vals[1]
	case api.SPrint:
		r.tell(api.EvPrint, vals[0])
	case api.SRead:
		return r.read(s)
	case api.SAssert:
		if vals[0] == 0 {
			return r.trapped(api.TrapAssert)
		}
	}
	return on
}

func (r *runner) read(s step) flow {
	if len(r.input) == 0 {
		return r.trapped(api.TrapInput)
	}
	n := r.input[0]
	r.input = r.input[1:]
	r.tell(api.EvRead, n)
	r.variable(s.Name)[0] = n
	return on
}
