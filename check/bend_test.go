package check_test

import (
	"math"
	"math/rand/v2"

	"parallax/api"
)

// copied shares no memory with the program; its lists without elements are nil.
func copied(p api.Prog) api.Prog {
	var c api.Prog
	for _, q := range p.Procs {
		q.Params = append([]api.Param(nil), q.Params...)
		q.Body = copiedStmts(q.Body)
		c.Procs = append(c.Procs, q)
	}
	return c
}

func copiedStmts(l []api.Stmt) []api.Stmt {
	var c []api.Stmt
	for _, s := range l {
		s.E, s.Body, s.Else = copiedExprs(s.E), copiedStmts(s.Body), copiedStmts(s.Else)
		c = append(c, s)
	}
	return c
}

func copiedExprs(l []api.Expr) []api.Expr {
	var c []api.Expr
	for _, x := range l {
		x.L = copiedExprs(x.L)
		c = append(c, x)
	}
	return c
}

// bender makes a program wrong, as a rule.
type bender struct{ *rand.Rand }

func oneOf[T any](b bender, l ...T) T { return l[b.IntN(len(l))] }

func (b bender) name() string {
	return oneOf(b, "v1", "v2", "v3", "v4", "v5", "a", "b", "main", "f", "g", "h", "", "nope")
}

func (b bender) number() int64 {
	return oneOf[int64](b, -3, -2, -1, 0, 1, 2, 63, 64, 65, math.MaxInt64, math.MinInt64)
}

// stmts and exprs are where a program's stand, in order.
func stmts(p api.Prog) []*api.Stmt {
	var all []*api.Stmt
	var enter func(l []api.Stmt)
	enter = func(l []api.Stmt) {
		for i := range l {
			all = append(all, &l[i])
			enter(l[i].Body)
			enter(l[i].Else)
		}
	}
	for _, q := range p.Procs {
		enter(q.Body)
	}
	return all
}

func exprs(p api.Prog) []*api.Expr {
	var all []*api.Expr
	var enter func(l []api.Expr)
	enter = func(l []api.Expr) {
		for i := range l {
			all = append(all, &l[i])
			enter(l[i].L)
		}
	}
	for _, s := range stmts(p) {
		enter(s.E)
	}
	return all
}

// bend changes one thing of a program.
func (b bender) bend(p *api.Prog) {
	if len(p.Procs) == 0 {
		return
	}
	switch b.IntN(6) {
	case 0:
		b.bendProc(p)
	case 1, 2:
		if l := stmts(*p); len(l) > 0 {
			b.bendStmt(p, oneOf(b, l...))
		}
	default:
		if l := exprs(*p); len(l) > 0 {
			b.bendExpr(p, oneOf(b, l...))
		}
	}
}

func (b bender) bendProc(p *api.Prog) {
	i := b.IntN(len(p.Procs))
	q := &p.Procs[i]
	switch b.IntN(8) {
	case 0:
		q.Name = b.name()
	case 1:
		q.Type = b.IntN(4)
	case 2:
		q.Params = append(q.Params, api.Param{Name: b.name(), Type: 1 + b.IntN(2)})
	case 3:
		q.Params = nil
	case 4:
		p.Procs = append(p.Procs[:i], p.Procs[i+1:]...)
	case 5:
		if len(q.Params) > 0 {
			q.Params[b.IntN(len(q.Params))].Type = b.IntN(4)
		}
	default:
		q.Body = q.Body[:b.IntN(len(q.Body)+1)]
	}
}

func (b bender) bendStmt(p *api.Prog, s *api.Stmt) {
	switch b.IntN(10) {
	case 0:
		s.Kind = b.IntN(13) - 1
	case 1, 2, 3:
		s.Name = b.name()
	case 4:
		s.Proc = b.name()
	case 5:
		s.Num = b.number()
	case 6:
		s.E = s.E[:b.IntN(len(s.E)+1)]
	case 7:
		s.E = append(s.E, b.part(*p))
	case 8:
		s.Body, s.Else = s.Else, s.Body
	case 9:
		other := *oneOf(b, stmts(*p)...)
		s.Body = append(s.Body, copiedStmts([]api.Stmt{other})...)
	}
}

// part is an expression of the program, or a number.
func (b bender) part(p api.Prog) api.Expr {
	l := exprs(p)
	if len(l) == 0 {
		return api.Expr{Kind: api.EInt}
	}
	return copiedExprs([]api.Expr{*oneOf(b, l...)})[0]
}

func (b bender) bendExpr(p *api.Prog, x *api.Expr) {
	switch b.IntN(8) {
	case 0:
		x.Kind = b.IntN(8)
	case 1, 2:
		x.Name = b.name()
	case 3:
		x.Name = oneOf(b, "+", "-", "!", "<", "==", "&&", "=", "", ">")
	case 4:
		x.Num = b.number()
	case 5:
		x.L = x.L[:b.IntN(len(x.L)+1)]
	case 6:
		x.L = append(x.L, b.part(*p))
	case 7:
		*x = b.part(*p)
	}
}
