package consts

import (
	"parallax/api"
	"parallax/check"
	"parallax/fold"
)

// applier puts numbers into the statements of a procedure; mark is that of the last one it has come to.
type applier struct {
	vars   []api.Var
	states []State
	mark   int
}

func (a *applier) block(l []api.Stmt) []api.Stmt {
	var applied []api.Stmt
	for _, s := range l {
		a.mark++
		s.E = a.exprs(s.E)
		s.Body = a.block(s.Body)
		s.Else = a.block(s.Else)
		applied = append(applied, s)
	}
	return applied
}

// exprs are the expressions of a statement; where it is not reached, they are as they are.
func (a *applier) exprs(l []api.Expr) []api.Expr {
	k := knower{a.vars, a.mark, a.states[a.mark]}
	l = k.filled(l)
	for i := range l {
		if k.state.Reached {
			l[i] = fold.Expr(l[i])
		}
	}
	return l
}

// filled are expressions with the numbers that are known in the places of names.
func (k knower) filled(l []api.Expr) []api.Expr {
	var all []api.Expr
	for _, x := range l {
		all = append(all, k.put(x))
	}
	return all
}

// put is an expression with the numbers put in.
func (k knower) put(x api.Expr) api.Expr {
	if x.Kind == api.EVar {
		if r := k.answer(x); r.kind == number {
			return k.literal(x.Name, r.num)
		}
	}
	x.L = k.filled(x.L)
	return x
}

// literal is the expression of a number that is known of the variable of a name.
func (k knower) literal(name string, n int64) api.Expr {
	if k.vars[check.Find(k.vars, name, k.mark)].Type == api.Bool {
		return api.Expr{Kind: api.EBool, Num: n}
	}
	return fold.Lit(n)
}
