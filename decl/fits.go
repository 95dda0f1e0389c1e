package decl

import (
	"slices"

	"parallax/api"
	"parallax/check"
)

// program is a right one, with what is known of it.
type program struct {
	api.Prog
	check.Info
}

// scope is what is known of a procedure: its variables, and how many statements it has.
type scope struct {
	vars  []api.Var
	marks int
}

// find is what is known of the procedure of a name, if there is one.
func (p program) find(name string) (scope, bool) {
	i := slices.IndexFunc(p.Procs, func(q api.Proc) bool { return q.Name == name })
	if i < 0 {
		return scope{}, false
	}
	return scope{p.Vars[i], p.Marks[i]}, true
}

// has tells whether the procedure has a mark.
func (s scope) has(mark int64) bool { return 0 <= mark && mark <= int64(s.marks)+1 }

// variable is the one of a name, wherever it is in scope.
func (s scope) variable(name string) api.Var {
	i := slices.IndexFunc(s.vars, func(v api.Var) bool { return v.Name == name })
	must(i >= 0, api.ErrName)
	return s.vars[i]
}

// checker holds a file against two programs. Its Spot is how far it has come, and so where it gives up.
type checker struct {
	Spot
	file File
	both [sides]program
}

// programs asks that the programs are right.
func (c *checker) programs(l ...api.Prog) {
	for side, p := range l {
		info, at, e := check.Check(p)
		c.Spot = Spot{kinds + 1 + side, at.Proc}
		must(e == api.OK, e)
		c.both[side] = program{p, info}
	}
}

func (c *checker) items() {
	each(c, pairs, c.file.Pairs, c.pair)
	each(c, sames, c.file.Sames, c.same)
	each(c, keeps, c.file.Keeps, func(k Keep) { c.proc(k.Side, k.Proc).variable(k.Var) })
	each(c, breaks, c.file.Breaks, c.stop)
	each(c, watches, c.file.Watches, c.watch)
}

// each checks the items of a kind, in order.
func each[T any](c *checker, kind int, l []T, fits func(T)) {
	for i, x := range l {
		c.Spot = Spot{kind + 1, i}
		fits(x)
	}
}

// proc is the procedure of a name on a side. On what is no side there is none.
func (c *checker) proc(side int, name string) scope {
	must(side == left || side == right, api.ErrName)
	s, ok := c.both[side].find(name)
	must(ok, api.ErrName)
	return s
}

func (c *checker) pair(p api.Pair) {
	c.proc(left, p.ProcA)
	c.proc(right, p.ProcB)
	paired := func(q api.Pair) bool { return q.ProcA == p.ProcA || q.ProcB == p.ProcB }
	must(!slices.ContainsFunc(c.file.Pairs[:c.Index], paired), api.ErrPair)
}

func (c *checker) same(s api.Pair) {
	a, b := c.proc(left, s.ProcA), c.proc(right, s.ProcB)
	paired := func(q api.Pair) bool { return q.ProcA == s.ProcA && q.ProcB == s.ProcB }
	must(slices.ContainsFunc(c.file.Pairs, paired), api.ErrPair)
	x, y := a.variable(s.VarA), b.variable(s.VarB)
	must(x.Type == y.Type && x.Size == y.Size, api.ErrType)
}

func (c *checker) stop(b Break) {
	s := c.proc(b.Side, b.Proc)
	must(s.has(b.Mark), api.ErrPlace)
	for _, x := range b.When {
		t, e := check.TypeOf(x, s.vars, int(b.Mark))
		must(e == api.OK, e)
		must(t == api.Bool, api.ErrType)
	}
}

func (c *checker) watch(w Watch) {
	must(c.proc(w.Side, w.Proc).variable(w.Var).Size == 0, api.ErrType)
}
