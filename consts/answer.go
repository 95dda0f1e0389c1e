package consts

import (
	"parallax/api"
	"parallax/check"
	"parallax/fold"
)

// kind says what an answer is.
type kind int

const (
	nothing kind = iota
	number
	traps
)

// reply is an expression's answer; num is 0 of all but a number.
type reply struct {
	kind kind
	num  int64
}

// knower answers expressions at a mark, by what is known there.
type knower struct {
	vars  []api.Var
	mark  int
	state State
}

// answer is an expression's answer; of one that is built otherwise it is nothing.
func (k knower) answer(x api.Expr) reply {
	switch len(x.L) {
	case 0:
		return k.leaf(x)
	case 1:
		return k.one(x)
	case 2:
		return k.two(x)
	}
	return reply{}
}

func (k knower) leaf(x api.Expr) reply {
	switch x.Kind {
	case api.EInt:
		return numbered(x.Num)
	case api.EBool:
		return trueOrFalse(x.Num)
	case api.EVar:
		return k.variable(x.Name)
	}
	return reply{}
}

func numbered(n int64) reply { return reply{number, n} }

// trueOrFalse is the answer of an EBool: one of another number is neither, so it is not built as it must be.
func trueOrFalse(n int64) reply {
	if n != 0 && n != 1 {
		return reply{}
	}
	return numbered(n)
}

// worth is the number that a sign makes of numbers.
func worth(x api.Expr) reply {
	n, _ := fold.Eval(x, fold.Env{})
	return numbered(n)
}

func whole(n int64) api.Expr { return api.Expr{Kind: api.EInt, Num: n} }

func (k knower) variable(name string) reply {
	i := check.Find(k.vars, name, k.mark)
	s := k.state
	if i < 0 || isArray(k.vars[i]) || i >= len(s.Known) || i >= len(s.Nums) || !s.Known[i] {
		return reply{}
	}
	return numbered(s.Nums[i])
}

func isArray(v api.Var) bool { return v.Size > 0 }

func (k knower) one(x api.Expr) reply {
	switch {
	case x.Kind == api.EIndex:
		return k.element(x)
	case x.Kind == api.EUn && (x.Name == "-" || x.Name == "!"):
		return k.unary(x)
	}
	return reply{}
}

// element is the answer of NAME [ e ]: of elements no numbers are known.
func (k knower) element(x api.Expr) reply {
	index := k.answer(x.L[0])
	if index.kind == traps || k.outside(x.Name, index) {
		return reply{kind: traps}
	}
	return reply{}
}

func (k knower) unary(x api.Expr) reply {
	inner := k.answer(x.L[0])
	if inner.kind != number {
		return inner
	}
	return worth(api.Expr{Kind: api.EUn, Name: x.Name, L: []api.Expr{whole(inner.num)}})
}

// outside tells whether an index is known to be no place of the variable of a name.
func (k knower) outside(name string, index reply) bool {
	i := check.Find(k.vars, name, k.mark)
	return i >= 0 && index.kind == number && (index.num < 0 || index.num >= int64(k.vars[i].Size))
}

func (k knower) two(x api.Expr) reply {
	if x.Kind != api.EBin {
		return reply{}
	}
	switch x.Name {
	case "&&", "||":
		return k.choice(x)
	case "+", "-", "*", "/", "%", "<", "<=", "==", "!=":
		return k.reckoned(x)
	}
	return reply{}
}

// choice is the answer where the left side tells whether the right one is reckoned at all.
func (k knower) choice(x api.Expr) reply {
	a := k.answer(x.L[0])
	if a.kind != number {
		return a
	}
	if decided := a.num != 0; decided == (x.Name == "||") {
		return truth(decided)
	}
	b := k.answer(x.L[1])
	if b.kind != number {
		return b
	}
	return truth(b.num != 0)
}

// truth is 1 of what is so, else 0.
func truth(so bool) reply {
	if so {
		return numbered(1)
	}
	return numbered(0)
}

// reckoned is the answer where both sides are reckoned, whatever they are worth.
func (k knower) reckoned(x api.Expr) reply {
	a, b := k.answer(x.L[0]), k.answer(x.L[1])
	divides := x.Name == "/" || x.Name == "%"
	switch {
	case a.kind == traps || b.kind == traps || divides && b == numbered(0):
		return reply{kind: traps}
	case a.kind == nothing || b.kind == nothing:
		return reply{}
	}
	return worth(api.Expr{Kind: api.EBin, Name: x.Name, L: []api.Expr{whole(a.num), whole(b.num)}})
}
