package fold

import "parallax/api"

// smaller is what the rules make of an expression whose parts are folded.
func smaller(x api.Expr) api.Expr {
	if x.Kind != api.EUn && x.Kind != api.EBin {
		return x
	}
	if y, ok := known(x); ok {
		return y
	}
	if x.Kind == api.EUn {
		return smallerUnary(x)
	}
	return smallerTwo(x)
}

// known is the constant that a sign makes of constants, if it makes one.
func known(x api.Expr) (api.Expr, bool) {
	for _, part := range x.L {
		if _, ok := Const(part); !ok {
			return api.Expr{}, false
		}
	}
	n, trap := Eval(x, Env{})
	switch {
	case trap != 0:
		return api.Expr{}, false
	case isTrueOrFalse(x):
		return truth(n), true
	}
	return Lit(n), true
}

func smallerUnary(x api.Expr) api.Expr {
	inner := x.L[0]
	switch {
	case isUnary(x, "-") && isUnary(inner, "-"):
		fallthrough
	case isUnary(x, "!") && isUnary(inner, "!") && isTrueOrFalse(inner.L[0]):
		return inner.L[0]
	}
	return x
}

func smallerTwo(x api.Expr) api.Expr {
	a, b := x.L[0], x.L[1]
	switch sign := x.Name; {
	case sign == "&&" && isTruth(a, 0):
		fallthrough
	case sign == "||" && isTruth(a, 1):
		return truth(a.Num) // b is not reckoned
	case sign == "&&" && isTruth(a, 1) && isTrueOrFalse(b):
		fallthrough
	case sign == "||" && isTruth(a, 0) && isTrueOrFalse(b):
		return b
	case sign == "&&" && isTruth(b, 1) && isTrueOrFalse(a):
		fallthrough
	case sign == "||" && isTruth(b, 0) && isTrueOrFalse(a):
		return a
	case (sign == "+" || sign == "-") && isWhole(b, 0):
		fallthrough
	case (sign == "*" || sign == "/") && isWhole(b, 1):
		return a
	case sign == "+" && isWhole(a, 0):
		fallthrough
	case sign == "*" && isWhole(a, 1):
		return b
	}
	return x
}
