package gen

import (
	"parallax/api"
	"parallax/check"
	"parallax/fold"
)

// mostHigh is how many numbers may lie on the stack below what a sign stands between: well below 4096, above which codes are not sound.
const mostHigh = 4000

// constant is the number of an expression that is one's; in a plain build none is taken for one.
func (c *compiler) constant(x api.Expr) (int64, bool) {
	if c.plain {
		return 0, false
	}
	return fold.Const(x)
}

// expr puts what an expression is worth on a stack that is so high.
func (c *compiler) expr(x api.Expr, high int) {
	if n, ok := c.constant(x); ok {
		c.put(api.OpPush, n)
		return
	}
	switch x.Kind {
	case api.EInt, api.EBool:
		c.put(api.OpPush, x.Num)
	case api.EVar:
		c.put(api.OpLoad, int64(c.table.Cells[check.Find(c.vars, x.Name, c.mark)]))
	case api.EIndex:
		c.expr(x.L[0], high)
		c.put(api.OpIndex, c.array(x.Name)...)
	case api.EUn:
		c.expr(x.L[0], high)
		c.put(unary(x.Name))
	case api.EBin:
		c.binary(x, high)
	}
}

func unary(sign string) int {
	if sign == "!" {
		return api.OpNot
	}
	return api.OpNeg
}

func (c *compiler) binary(x api.Expr, high int) {
	if x.Name == "&&" || x.Name == "||" {
		c.choice(x, high)
		return
	}
	c.expr(x.L[0], high)
	if high < mostHigh {
		c.expr(x.L[1], high+1)
	} else {
		c.aside(x.L[1], high)
	}
	for _, op := range between(x.Name) {
		c.put(op)
	}
}

// between are the operations of a sign that stands between two.
func between(sign string) []int {
	switch sign {
	case "+":
		return []int{api.OpAdd}
	case "-":
		return []int{api.OpSub}
	case "*":
		return []int{api.OpMul}
	case "/":
		return []int{api.OpDiv}
	case "%":
		return []int{api.OpMod}
	case "<":
		return []int{api.OpLess}
	case "<=":
		return []int{api.OpMost}
	case "==":
		return []int{api.OpSame}
	}
	return []int{api.OpSame, api.OpNot} // !=
}

// aside puts what an expression is worth on the number that is on top of the stack, which lies in a cell meanwhile: of a tower of brackets the stack would become too high.
func (c *compiler) aside(x api.Expr, high int) {
	left := c.lend()
	c.put(api.OpStore, left)
	c.expr(x, high)
	right := c.lend()
	c.put(api.OpStore, right)
	c.put(api.OpLoad, left)
	c.put(api.OpLoad, right)
	c.lent -= 2
}

// lend is a cell that nobody has.
func (c *compiler) lend() int64 {
	cell := c.bare() + c.lent
	c.lent++
	c.size = max(c.size, cell+1)
	return int64(cell)
}

// choice compiles && and ||, where the left side tells whether the right one is reckoned at all. Both are 1 or 0, as check asks for their types.
func (c *compiler) choice(x api.Expr, high int) {
	ifTrue, ifFalse := func() { c.expr(x.L[1], high) }, func() { c.put(api.OpPush, 0) }
	if x.Name == "||" {
		ifTrue, ifFalse = func() { c.put(api.OpPush, 1) }, ifTrue
	}
	if n, ok := c.constant(x.L[0]); ok && n == 0 {
		ifFalse()
		return
	} else if ok {
		ifTrue()
		return
	}
	c.expr(x.L[0], high)
	orElse := c.over(api.OpZero)
	ifTrue()
	defer c.over(api.OpJump)()
	orElse()
	ifFalse()
}
