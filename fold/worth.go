package fold

import (
	"slices"

	"parallax/api"
	"parallax/num"
)

// told tells of a name its number, or its list, if it has one (not nil).
type told func(name string) (int64, []int64)

func (env Env) value(name string) (int64, []int64) {
	i := slices.Index(env.Names, name)
	if i < 0 {
		return 0, nil
	}
	if i < len(env.Lists) && env.Lists[i] != nil {
		return 0, env.Lists[i]
	}
	if i < len(env.Vals) {
		return env.Vals[i], nil
	}
	return 0, nil
}

// number is 1 of what is so, else 0.
func number(so bool) int64 {
	if so {
		return 1
	}
	return 0
}

// worth is what an expression is worth where names stand for what is told, and 0; or 0 and its trap.
func worth(x api.Expr, names told) (int64, int) {
	if !built(x) {
		return 0, 0
	}
	switch x.Kind {
	case api.EInt:
		return x.Num, 0
	case api.EBool:
		return number(x.Num == 1), 0
	case api.EVar:
		n, _ := names(x.Name)
		return n, 0
	case api.EIndex:
		return worthIndex(x, names)
	case api.EUn:
		return worthUnary(x, names)
	}
	return worthTwo(x, names)
}

func worthIndex(x api.Expr, names told) (int64, int) {
	i, trap := worth(x.L[0], names)
	if trap != 0 {
		return 0, trap
	}
	_, list := names(x.Name)
	if !isPlace(i, list) {
		return 0, api.TrapIndex
	}
	return list[i], 0
}

func isPlace(i int64, list []int64) bool { return 0 <= i && i < int64(len(list)) }

func worthUnary(x api.Expr, names told) (int64, int) {
	n, trap := worth(x.L[0], names)
	switch {
	case trap != 0:
		return 0, trap
	case x.Name == "!":
		return number(n == 0), 0
	}
	return num.Neg(n), 0
}

func worthTwo(x api.Expr, names told) (int64, int) {
	a, trap := worth(x.L[0], names)
	if trap != 0 {
		return 0, trap
	}
	if x.Name == "&&" && a == 0 || x.Name == "||" && a != 0 {
		return number(a != 0), 0
	}
	b, trap := worth(x.L[1], names)
	if trap != 0 {
		return 0, trap
	}
	return reckoned(a, x.Name, b)
}

// reckoned is what a sign makes of two numbers; of && and || where the left one does not tell.
func reckoned(a int64, sign string, b int64) (int64, int) {
	switch sign {
	case "+":
		return num.Add(a, b), 0
	case "-":
		return num.Sub(a, b), 0
	case "*":
		return num.Mul(a, b), 0
	case "/":
		return divided(num.Div(a, b))
	case "%":
		return divided(num.Mod(a, b))
	case "<":
		return number(a < b), 0
	case "<=":
		return number(a <= b), 0
	case "==":
		return number(a == b), 0
	case "!=":
		return number(a != b), 0
	}
	return number(b != 0), 0
}

func divided(n int64, e api.Errno) (int64, int) {
	if e != api.OK {
		return 0, api.TrapZero
	}
	return n, 0
}
