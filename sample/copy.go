package sample

import "parallax/api"

// Changed is a copy of a program that shares no memory with it, in which functions have changed each statement and each expression, those that stand in another one ahead of it. Its lists without elements are nil.
func Changed(p api.Prog, stmt func(api.Stmt) api.Stmt, expr func(api.Expr) api.Expr) api.Prog {
	c := changer{stmt, expr}
	var changed api.Prog
	for _, q := range p.Procs {
		q.Params = append([]api.Param(nil), q.Params...)
		q.Body = c.stmts(q.Body)
		changed.Procs = append(changed.Procs, q)
	}
	return changed
}

// Copy is a program that is copied likewise, and not changed.
func Copy(p api.Prog) api.Prog { return Changed(p, same, same) }

// CopyStmts are statements that are copied likewise.
func CopyStmts(l ...api.Stmt) []api.Stmt { return changer{same, same}.stmts(l) }

// CopyExprs are expressions that are copied likewise.
func CopyExprs(l ...api.Expr) []api.Expr { return changer{same, same}.exprs(l) }

func same[T any](x T) T { return x }

type changer struct {
	stmt func(api.Stmt) api.Stmt
	expr func(api.Expr) api.Expr
}

func (c changer) stmts(l []api.Stmt) []api.Stmt {
	var changed []api.Stmt
	for _, s := range l {
		s.E, s.Body, s.Else = c.exprs(s.E), c.stmts(s.Body), c.stmts(s.Else)
		changed = append(changed, c.stmt(s))
	}
	return changed
}

func (c changer) exprs(l []api.Expr) []api.Expr {
	var changed []api.Expr
	for _, x := range l {
		x.L = c.exprs(x.L)
		changed = append(changed, c.expr(x))
	}
	return changed
}
