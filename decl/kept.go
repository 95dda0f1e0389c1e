package decl

import (
	"parallax/api"
	"parallax/check"
	"parallax/gen"
)

// keeper is what is kept on a side: a list in order, and where in it each variable stands.
type keeper struct {
	side   int
	list   []gen.Keep
	places map[gen.Keep]int
}

// keeping is what a file keeps on a side.
func keeping(f File, side int) keeper {
	k := keeper{side: side, places: map[gen.Keep]int{}}
	for _, s := range f.Sames {
		switch side {
		case left:
			k.keep(s.ProcA, s.VarA)
		case right:
			k.keep(s.ProcB, s.VarB)
		}
	}
	for _, x := range f.Keeps {
		if x.Side == side {
			k.keep(x.Proc, x.Var)
		}
	}
	return k
}

// keep puts a variable behind the others, if it is none of them.
func (k *keeper) keep(proc, name string) {
	if !k.has(proc, name) {
		x := gen.Keep{Proc: proc, Var: name}
		k.places[x] = len(k.list)
		k.list = append(k.list, x)
	}
}

func (k *keeper) has(proc, name string) bool {
	_, ok := k.places[gen.Keep{Proc: proc, Var: name}]
	return ok
}

// watches asks that what is watched on the side is kept.
func (k *keeper) watches(l []Watch) {
	for _, w := range l {
		must(w.Side != k.side || k.has(w.Proc, w.Var), api.ErrWatch)
	}
}

// breaks asks that what breaks of the side ask in a program is kept. In one that is not right nothing is in scope.
func (k *keeper) breaks(l []Break, p api.Prog) {
	info, _, e := check.Check(p)
	if e != api.OK {
		return
	}
	for _, b := range l {
		s, ok := program{p, info}.find(b.Proc)
		if ok && b.Side == k.side && s.has(b.Mark) {
			k.exprs(b, s, b.When)
		}
	}
}

// exprs asks that each variable in scope at a break that expressions name is kept.
func (k *keeper) exprs(b Break, s scope, l []api.Expr) {
	for _, x := range l {
		names := x.Kind == api.EVar || x.Kind == api.EIndex
		if names && check.Find(s.vars, x.Name, int(b.Mark)) >= 0 {
			must(k.has(b.Proc, x.Name), api.ErrWatch)
		}
		k.exprs(b, s, x.L)
	}
}
