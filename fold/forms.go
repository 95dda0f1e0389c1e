package fold

import (
	"math"

	"parallax/api"
)

// least has no number of the other sign, so no sign ahead of an INT makes it.
const least = math.MinInt64

func whole(n int64) api.Expr { return api.Expr{Kind: api.EInt, Num: n} }

func truth(n int64) api.Expr { return api.Expr{Kind: api.EBool, Num: n} }

func two(a api.Expr, sign string, b api.Expr) api.Expr {
	return api.Expr{Kind: api.EBin, Name: sign, L: []api.Expr{a, b}}
}

// built tells whether an expression is of a kind, with as many parts as that one has, and one of its signs.
func built(x api.Expr) bool {
	switch x.Kind {
	case api.EInt, api.EBool, api.EVar:
		return len(x.L) == 0
	case api.EIndex:
		return len(x.L) == 1
	case api.EUn:
		return len(x.L) == 1 && (x.Name == "-" || x.Name == "!")
	case api.EBin:
		return len(x.L) == 2 && (reckons(x.Name) || tells(x.Name))
	}
	return false
}

// reckons tells whether a sign between two makes any number of them.
func reckons(sign string) bool {
	switch sign {
	case "+", "-", "*", "/", "%":
		return true
	}
	return false
}

// tells tells whether a sign between two makes 1 or 0 of them.
func tells(sign string) bool {
	switch sign {
	case "==", "!=", "<", "<=", "&&", "||":
		return true
	}
	return false
}

// isPlain tells whether an expression is an EInt or an EBool.
func isPlain(x api.Expr) bool {
	return built(x) && (x.Kind == api.EInt || x.Kind == api.EBool)
}

// isBelow tells whether an expression is that of a number below 0, but not the least.
func isBelow(x api.Expr) bool { return isUnary(x, "-") && isAbove(x.L[0]) }

// isLeast tells whether an expression is that of the least number.
func isLeast(x api.Expr) bool {
	if !isTwo(x, "-") {
		return false
	}
	a, b := x.L[0], x.L[1]
	return isBelow(a) && isWhole(a.L[0], math.MaxInt64) && isWhole(b, 1)
}

func isUnary(x api.Expr, sign string) bool {
	return built(x) && x.Kind == api.EUn && x.Name == sign
}

func isTwo(x api.Expr, sign string) bool {
	return built(x) && x.Kind == api.EBin && x.Name == sign
}

func isWhole(x api.Expr, n int64) bool {
	return built(x) && x.Kind == api.EInt && x.Num == n
}

func isTruth(x api.Expr, n int64) bool {
	return built(x) && x.Kind == api.EBool && x.Num == n
}

// isAbove tells whether an expression is an EInt above 0. One that is built otherwise is worth 0, whatever its Num.
func isAbove(x api.Expr) bool {
	return built(x) && x.Kind == api.EInt && x.Num > 0
}

// divides tells whether an expression has a sign that traps at 0.
func divides(x api.Expr) bool {
	return x.Kind == api.EBin && (x.Name == "/" || x.Name == "%")
}

// isTrueOrFalse tells whether an expression is so by its form: whatever its names' values, it is worth 1 or 0.
func isTrueOrFalse(x api.Expr) bool {
	return built(x) && (x.Kind == api.EBool || isUnary(x, "!") || x.Kind == api.EBin && tells(x.Name))
}

// each is a list of what is made of another one's elements.
func each[T any](l []T, made func(T) T) []T {
	var all []T
	for _, x := range l {
		all = append(all, made(x))
	}
	return all
}

func copyOf(x api.Expr) api.Expr {
	x.L = each(x.L, copyOf)
	return x
}
