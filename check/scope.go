package check

import "parallax/api"

// scope is what names are found with: the variables of a procedure, and a mark of it.
type scope struct {
	vars []api.Var
	mark int
}

// named is the variable of a name that is in scope.
func (s *scope) named(name string) api.Var {
	i := Find(s.vars, name, s.mark)
	must(i >= 0, api.ErrName)
	return s.vars[i]
}

// single is the type of a variable that may be no array.
func (s *scope) single(name string) int {
	v := s.named(name)
	must(!isArray(v), api.ErrType)
	return v.Type
}

// array asks that a variable is one.
func (s *scope) array(name string) { must(isArray(s.named(name)), api.ErrType) }

func isArray(v api.Var) bool { return v.Size > 0 }

// typed asks that an expression is of a type.
func (s *scope) typed(x api.Expr, t int) { must(s.typeOf(x) == t, api.ErrType) }

// typeOf is an expression's type. How an expression is built is asked ahead of its name and its parts, as no more can be said of one that is built otherwise.
func (s *scope) typeOf(x api.Expr) int {
	must(built(x), api.ErrForm)
	switch x.Kind {
	case api.EInt:
		return api.Int
	case api.EBool:
		return api.Bool
	case api.EVar:
		return s.single(x.Name)
	case api.EIndex:
		s.array(x.Name)
		s.typed(x.L[0], api.Int)
		return api.Int
	case api.EUn:
		return unaryType(x.Name, s.typeOf(x.L[0]))
	}
	left := s.typeOf(x.L[0])
	return binaryType(x.Name, left, s.typeOf(x.L[1]))
}

// built tells whether an expression is of a kind, with as many parts as it has, and a number that can be written. Signs are asked behind what they stand beside.
func built(x api.Expr) bool {
	switch x.Kind {
	case api.EInt:
		return x.Num >= 0 && len(x.L) == 0
	case api.EBool:
		return (x.Num == 0 || x.Num == 1) && len(x.L) == 0
	case api.EVar:
		return len(x.L) == 0
	case api.EIndex, api.EUn:
		return len(x.L) == 1
	case api.EBin:
		return len(x.L) == 2
	}
	return false
}

// unaryType is the type of a unary sign ahead of a type.
func unaryType(sign string, t int) int {
	switch sign {
	case "-":
		must(t == api.Int, api.ErrType)
		return api.Int
	case "!":
		must(t == api.Bool, api.ErrType)
		return api.Bool
	}
	panic(api.ErrForm)
}

// binaryType is the type of a sign between two types.
func binaryType(sign string, left, right int) int {
	switch sign {
	case "+", "-", "*", "/", "%":
		must(left == api.Int && right == api.Int, api.ErrType)
		return api.Int
	case "<", "<=":
		must(left == api.Int && right == api.Int, api.ErrType)
		return api.Bool
	case "==", "!=":
		must(left == right, api.ErrType)
		return api.Bool
	case "&&", "||":
		must(left == api.Bool && right == api.Bool, api.ErrType)
		return api.Bool
	}
	panic(api.ErrForm)
}
