package gen

import (
	"slices"

	"parallax/api"
)

// copyOf is a program that shares no memory with the one given.
func copyOf(p api.Prog) api.Prog {
	return api.Prog{Procs: each(p.Procs, func(q api.Proc) api.Proc {
		q.Params, q.Body = slices.Clone(q.Params), each(q.Body, copyStmt)
		return q
	})}
}

func copyStmt(s api.Stmt) api.Stmt {
	s.E, s.Body, s.Else = each(s.E, copyExpr), each(s.Body, copyStmt), each(s.Else, copyStmt)
	return s
}

func copyExpr(x api.Expr) api.Expr {
	x.L = each(x.L, copyExpr)
	return x
}

// each is a list of what is made of another one's elements; one that is nil stays so.
func each[T any](l []T, made func(T) T) []T {
	l = slices.Clone(l)
	for i, x := range l {
		l[i] = made(x)
	}
	return l
}
