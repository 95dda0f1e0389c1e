package sample

import (
	"math"

	"parallax/api"
)

func whole(n int64) api.Expr { return api.Expr{Kind: api.EInt, Num: n} }

func two(x api.Expr, sign string, y api.Expr) api.Expr {
	return api.Expr{Kind: api.EBin, Name: sign, L: []api.Expr{x, y}}
}

// exprs is one expression of a type, as statements have it.
func (a *author) exprs(t int) []api.Expr { return []api.Expr{a.expr(t, a.pick(4))} }

// expr makes an expression of a type in which at most so many stand in one another.
func (a *author) expr(t, size int) api.Expr {
	if size == 0 || a.pick(5) == 0 {
		return a.leaf(t)
	}
	if t == api.Bool {
		return a.truth(size - 1)
	}
	return a.reckoned(size - 1)
}

// leaf makes an expression without parts.
func (a *author) leaf(t int) api.Expr {
	if a.pick(3) > 0 {
		name, ok := a.picked(func(v variable) bool { return v.Type == t && v.Size == 0 })
		if ok {
			return api.Expr{Kind: api.EVar, Name: name}
		}
	}
	if t == api.Bool {
		return api.Expr{Kind: api.EBool, Num: int64(a.pick(2))}
	}
	if a.pick(20) == 0 {
		return whole(of(a.pick, math.MaxInt64, math.MaxInt64-1, int64(1)<<32))
	}
	return whole(int64(a.pick(8)))
}

// truth makes an expression of type Bool with parts.
func (a *author) truth(size int) api.Expr {
	switch a.pick(6) {
	case 0:
		return api.Expr{Kind: api.EUn, Name: "!", L: []api.Expr{a.expr(api.Bool, size)}}
	case 1, 2:
		return two(a.expr(api.Bool, size), of(a.pick, "&&", "||"), a.expr(api.Bool, size))
	case 3:
		t := valueType(a.pick)
		return two(a.expr(t, size), of(a.pick, "==", "!="), a.expr(t, size))
	}
	return two(a.expr(api.Int, size), of(a.pick, "<", "<=", "==", "!="), a.expr(api.Int, size))
}

// reckoned makes an expression of type Int with parts.
func (a *author) reckoned(size int) api.Expr {
	switch a.pick(8) {
	case 0:
		return api.Expr{Kind: api.EUn, Name: "-", L: []api.Expr{a.expr(api.Int, size)}}
	case 1:
		return two(a.expr(api.Int, size), of(a.pick, "/", "%"), a.divisor(size))
	case 2, 3:
		if v, ok := a.array(); ok {
			return api.Expr{Kind: api.EIndex, Name: v.Name, L: []api.Expr{a.place(v)}}
		}
	}
	return two(a.expr(api.Int, size), of(a.pick, "+", "-", "*"), a.expr(api.Int, size))
}

// divisor makes what is seldom 0.
func (a *author) divisor(size int) api.Expr {
	if a.pick(4) > 0 {
		return whole(1 + int64(a.pick(5)))
	}
	return a.expr(api.Int, size)
}

// array picks an array that is known.
func (a *author) array() (api.Var, bool) {
	var l []api.Var
	for _, v := range a.known {
		if v.Size > 0 {
			l = append(l, v.Var)
		}
	}
	if len(l) == 0 {
		return api.Var{}, false
	}
	return of(a.pick, l...), true
}

// place makes an index that seldom is none of an array's.
func (a *author) place(v api.Var) api.Expr {
	switch a.pick(8) {
	case 0:
		return a.expr(api.Int, 1)
	case 1:
		return two(a.leaf(api.Int), "%", whole(int64(v.Size)))
	}
	return whole(int64(a.pick(v.Size)))
}
