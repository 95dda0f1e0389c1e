package syntax

import "parallax/api"

// How tightly signs between two bind.
const (
	noSign = iota
	orSign
	andSign
	compareSign
	sumSign
	productSign
)

// exprReader reads expressions.
type exprReader struct {
	tokenReader
}

// readExpr reads the expression at a token of a row that is right, and tells the number of the token behind it.
func readExpr(l []api.Token, from int) (x api.Expr, next int, at int, e api.Errno) {
	r := exprReader{tokenReader{row: l, next: from}}
	at, e = attempt(func() {
		x = r.expr(1)
		next = r.next
	})
	return x, next, at, e
}

// expr reads an expression that is so deep.
func (r *exprReader) expr(deep int) api.Expr { return r.bound(orSign, deep) }

// bound reads what signs that bind at least so tightly hold together; what stands beside them is as deep as the whole.
func (r *exprReader) bound(by int, deep int) api.Expr {
	if by > productSign {
		return r.unary(deep)
	}
	x := r.bound(by+1, deep)
	for binds(r.now().Text) == by {
		sign := r.now().Text
		r.next++
		x = api.Expr{Kind: api.EBin, Name: sign, L: []api.Expr{x, r.bound(by+1, deep)}}
		if by == compareSign {
			break // one comparison is not held against another
		}
	}
	return x
}

// binds tells how tightly a sign between two binds; of what is none: noSign.
func binds(sign string) int {
	switch sign {
	case "||":
		return orSign
	case "&&":
		return andSign
	case "==", "!=", "<", "<=":
		return compareSign
	case "+", "-":
		return sumSign
	case "*", "/", "%":
		return productSign
	}
	return noSign
}

// unary reads what no sign between two parts. Each part that is an expression begins with one, which sees how deep it is.
func (r *exprReader) unary(deep int) api.Expr {
	t := r.begin(beginsExpr(r.now()), deep)
	switch {
	case t.Kind == api.TInt:
		return api.Expr{Kind: api.EInt, Num: t.Num}
	case t.Kind == api.TName:
		return r.variable(t.Text, deep)
	case t.Text == "true":
		return api.Expr{Kind: api.EBool, Num: 1}
	case t.Text == "false":
		return api.Expr{Kind: api.EBool}
	case t.Text == "(":
		x := r.expr(deep + 1)
		r.must(")")
		return x
	}
	return api.Expr{Kind: api.EUn, Name: t.Text, L: []api.Expr{r.unary(deep + 1)}}
}

// variable reads on behind a name: a variable, or an element of one.
func (r *exprReader) variable(name string, deep int) api.Expr {
	if !r.has("[") {
		return api.Expr{Kind: api.EVar, Name: name}
	}
	index := r.expr(deep + 1)
	r.must("]")
	return api.Expr{Kind: api.EIndex, Name: name, L: []api.Expr{index}}
}

// beginsExpr tells whether an expression can begin with a token.
func beginsExpr(t api.Token) bool {
	switch t.Kind {
	case api.TInt, api.TName:
		return true
	}
	return t.Text == "true" || t.Text == "false" || t.Text == "(" || isUnary(t.Text)
}

func isUnary(sign string) bool { return sign == "-" || sign == "!" }
