package check

import "parallax/api"

// count is how many statements there are, with those in their blocks.
func count(l []api.Stmt) int {
	n := len(l)
	for _, s := range l {
		n += count(s.Body) + count(s.Else)
	}
	return n
}

// finder looks for the statement at which none is left to be gone by.
type finder struct {
	left  int
	found api.Stmt
}

// in goes through statements in order of marks, as far as it must.
func (f *finder) in(l []api.Stmt) bool {
	for _, s := range l {
		f.left--
		if f.left == 0 {
			f.found = s
			return true
		}
		if f.in(s.Body) || f.in(s.Else) {
			return true
		}
	}
	return false
}

// copyOf is a statement that shares no memory with the one given.
func copyOf(s api.Stmt) api.Stmt {
	s.E, s.Body, s.Else = copyExprs(s.E), copyStmts(s.Body), copyStmts(s.Else)
	return s
}

func copyStmts(l []api.Stmt) []api.Stmt {
	var copied []api.Stmt
	for _, s := range l {
		copied = append(copied, copyOf(s))
	}
	return copied
}

func copyExprs(l []api.Expr) []api.Expr {
	var copied []api.Expr
	for _, x := range l {
		x.L = copyExprs(x.L)
		copied = append(copied, x)
	}
	return copied
}

// declarer finds a procedure's variables; mark is that of the last statement it has come to.
type declarer struct {
	vars []api.Var
	mark int
}

// variables are a procedure's: its parameters, and then those that are declared.
func variables(p api.Proc) []api.Var {
	var d declarer
	for _, x := range p.Params {
		d.vars = append(d.vars, api.Var{Name: x.Name, Type: x.Type})
	}
	d.block(p.Body)
	for i := range p.Params {
		d.vars[i].To = d.mark + 1
	}
	return d.vars
}

// block goes through a block. How far its variables are in scope is known at its end.
func (d *declarer) block(l []api.Stmt) {
	var own []int
	for _, s := range l {
		d.mark++
		if s.Kind == api.SVar {
			own = append(own, len(d.vars))
			d.vars = append(d.vars, declared(s, d.mark))
		}
		d.block(s.Body)
		d.block(s.Else)
	}
	for _, i := range own {
		d.vars[i].To = d.mark
	}
}

// declared is the variable that a var statement at a mark declares.
func declared(s api.Stmt, mark int) api.Var {
	v := api.Var{Name: s.Name, Type: api.Int, From: mark + 1}
	switch {
	case s.Num < 0:
		v.Type = api.Bool
	case s.Num > 0:
		v.Size = int(s.Num)
	}
	return v
}
