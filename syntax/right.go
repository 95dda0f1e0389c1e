package syntax

import (
	"parallax/api"
	"parallax/lex"
)

// rightProg tells whether a program is right, but for depths.
func rightProg(p api.Prog) bool {
	for _, x := range p.Procs {
		if !rightProc(x) {
			return false
		}
	}
	return true
}

func rightProc(p api.Proc) bool {
	for _, x := range p.Params {
		if !lex.IsName(x.Name) || !isValueType(x.Type) {
			return false
		}
	}
	return lex.IsName(p.Name) && (p.Type == api.None || isValueType(p.Type)) && rightBlock(p.Body)
}

func isValueType(t int) bool { return t == api.Int || t == api.Bool }

func rightBlock(l []api.Stmt) bool {
	for _, s := range l {
		if !rightStmt(s) {
			return false
		}
	}
	return true
}

func rightStmt(s api.Stmt) bool {
	return rightWords(s) && rightParts(s) && rightExprs(s.E) && rightBlock(s.Body) && rightBlock(s.Else)
}

// rightWords tells whether a statement's names and number are such as its kind has.
func rightWords(s api.Stmt) bool {
	switch s.Kind {
	case api.SVar:
		return lex.IsName(s.Name) && s.Proc == "" && s.Num >= -1
	case api.SCall:
		return (s.Name == "" || lex.IsName(s.Name)) && lex.IsName(s.Proc) && s.Num == 0
	case api.SSet, api.SPut, api.SRead:
		return lex.IsName(s.Name) && s.Proc == "" && s.Num == 0
	case api.SIf, api.SWhile, api.SReturn, api.SPrint, api.SAssert:
		return s.Name == "" && s.Proc == "" && s.Num == 0
	}
	return false
}

// rightParts tells whether a statement has as many expressions as its kind has, and no block that its kind has not.
func rightParts(s api.Stmt) bool {
	switch s.Kind {
	case api.SIf:
		return len(s.E) == 1
	case api.SWhile:
		return len(s.E) == 1 && len(s.Else) == 0
	}
	if len(s.Body) > 0 || len(s.Else) > 0 {
		return false
	}
	switch s.Kind {
	case api.SVar, api.SRead:
		return len(s.E) == 0
	case api.SSet, api.SPrint, api.SAssert:
		return len(s.E) == 1
	case api.SPut:
		return len(s.E) == 2
	case api.SReturn:
		return len(s.E) <= 1
	}
	return true
}

func rightExprs(l []api.Expr) bool {
	for _, x := range l {
		if !rightExpr(x) {
			return false
		}
	}
	return true
}

// rightExpr tells whether an expression is right, but for depths.
func rightExpr(x api.Expr) bool {
	if !rightExprs(x.L) {
		return false
	}
	switch x.Kind {
	case api.EInt:
		return x.Name == "" && x.Num >= 0 && len(x.L) == 0
	case api.EBool:
		return x.Name == "" && (x.Num == 0 || x.Num == 1) && len(x.L) == 0
	case api.EVar:
		return lex.IsName(x.Name) && x.Num == 0 && len(x.L) == 0
	case api.EIndex:
		return lex.IsName(x.Name) && x.Num == 0 && len(x.L) == 1
	case api.EUn:
		return isUnary(x.Name) && x.Num == 0 && len(x.L) == 1
	case api.EBin:
		return binds(x.Name) != noSign && x.Num == 0 && len(x.L) == 2
	}
	return false
}
