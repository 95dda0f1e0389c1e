package sample

import (
	"math"

	"parallax/api"
)

// Bent is a copy of a program with one thing changed, so that, as a rule, it is wrong.
func Bent(pick Pick, p api.Prog) api.Prog {
	b := bender{pick, Copy(p)}
	if len(b.Procs) > 0 {
		switch pick(6) {
		case 0:
			b.proc(pick(len(b.Procs)))
		case 1, 2:
			b.someStmt()
		default:
			b.someExpr()
		}
	}
	return b.Prog
}

// BentExpr is a copy of a program with one thing of an expression changed.
func BentExpr(pick Pick, p api.Prog) api.Prog {
	b := bender{pick, Copy(p)}
	b.someExpr()
	return b.Prog
}

// OddVars are some variables of a procedure in another order, with others between them that no procedure has.
func OddVars(pick Pick, vars []api.Var) []api.Var {
	odd := []api.Var{
		{Name: "v1", Type: 9, Size: math.MaxInt, From: math.MinInt, To: math.MaxInt},
		{Name: "v2", Size: -5, From: 2, To: 1},
		{Size: math.MaxInt - 1, From: math.MinInt, To: math.MaxInt},
		{Name: "v3", To: 5},
	}
	l := append([]api.Var(nil), vars...)
	for range of(pick, 0, 1, 4, 2*api.MaxVars) {
		l = append(l, of(pick, odd...))
	}
	for i := range l {
		k := i + pick(len(l)-i)
		l[i], l[k] = l[k], l[i]
	}
	return l[:pick(len(l)+1)]
}

// bender changes a program.
type bender struct {
	pick Pick
	api.Prog
}

// stmts is where the program's statements stand, in order.
func (b *bender) stmts() []*api.Stmt {
	var all []*api.Stmt
	var enter func(l []api.Stmt)
	enter = func(l []api.Stmt) {
		for i := range l {
			all = append(all, &l[i])
			enter(l[i].Body)
			enter(l[i].Else)
		}
	}
	for _, q := range b.Procs {
		enter(q.Body)
	}
	return all
}

// exprs is where its expressions stand, in order, and their parts.
func (b *bender) exprs() []*api.Expr {
	var all []*api.Expr
	var enter func(l []api.Expr)
	enter = func(l []api.Expr) {
		for i := range l {
			all = append(all, &l[i])
			enter(l[i].L)
		}
	}
	for _, s := range b.stmts() {
		enter(s.E)
	}
	return all
}

func (b *bender) name() string {
	return of(b.pick, "v1", "v2", "v3", "v4", "v5", "a", "b", "main", "f", "g", "h", "", "nope")
}

func (b *bender) number() int64 {
	return of[int64](b.pick, -3, -2, -1, 0, 1, 2, 63, 64, 65, math.MaxInt64, math.MinInt64)
}

func (b *bender) proc(i int) {
	q := &b.Procs[i]
	switch b.pick(8) {
	case 0:
		q.Name = b.name()
	case 1:
		q.Type = b.pick(4)
	case 2:
		q.Params = append(q.Params, api.Param{Name: b.name(), Type: valueType(b.pick)})
	case 3:
		q.Params = nil
	case 4:
		b.Procs = append(b.Procs[:i], b.Procs[i+1:]...)
	case 5:
		if len(q.Params) > 0 {
			q.Params[b.pick(len(q.Params))].Type = b.pick(4)
		}
	default:
		q.Body = q.Body[:b.pick(len(q.Body)+1)]
	}
}

func (b *bender) someStmt() {
	if l := b.stmts(); len(l) > 0 {
		b.stmt(of(b.pick, l...))
	}
}

func (b *bender) stmt(s *api.Stmt) {
	switch b.pick(10) {
	case 0:
		s.Kind = b.pick(13) - 1
	case 1, 2, 3:
		s.Name = b.name()
	case 4:
		s.Proc = b.name()
	case 5:
		s.Num = b.number()
	case 6:
		s.E = s.E[:b.pick(len(s.E)+1)]
	case 7:
		s.E = append(s.E, b.part())
	case 8:
		s.Body, s.Else = s.Else, s.Body
	case 9:
		s.Body = append(s.Body, CopyStmts(*of(b.pick, b.stmts()...))...)
	}
}

// part is an expression of the program, or a number.
func (b *bender) part() api.Expr {
	l := b.exprs()
	if len(l) == 0 {
		return whole(0)
	}
	return CopyExprs(*of(b.pick, l...))[0]
}

func (b *bender) someExpr() {
	if l := b.exprs(); len(l) > 0 {
		b.expr(of(b.pick, l...))
	}
}

func (b *bender) expr(x *api.Expr) {
	switch b.pick(8) {
	case 0:
		x.Kind = b.pick(8)
	case 1, 2:
		x.Name = b.name()
	case 3:
		x.Name = of(b.pick, "+", "-", "!", "<", "==", "&&", "=", "", ">")
	case 4:
		x.Num = b.number()
	case 5:
		x.L = x.L[:b.pick(len(x.L)+1)]
	case 6:
		x.L = append(x.L, b.part())
	case 7:
		*x = b.part()
	}
}
