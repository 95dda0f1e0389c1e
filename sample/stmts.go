package sample

import (
	"strconv"

	"parallax/api"
)

// mostNames is how many variables a procedure may declare: fewer than check takes.
const mostNames = 40

// mostDeep is how many blocks may stand in one another.
const mostDeep = 3

// variable is one that is in scope; of one that is fixed the value is not changed, so that a loop comes to its end.
type variable struct {
	api.Var
	fixed bool
}

// author makes the body of a procedure.
type author struct {
	maker
	number int
	known  []variable
	names  int
	deep   int
}

// block makes the statements of a block. What is declared in it is not known behind it.
func (a *author) block(n int) []api.Stmt {
	known := len(a.known)
	a.deep++
	l := a.rows(n)
	a.deep--
	a.known = a.known[:known]
	return l
}

func (a *author) rows(n int) []api.Stmt {
	var l []api.Stmt
	for range n {
		l = append(l, a.row()...)
	}
	return l
}

// row makes a statement, or the few that a loop is made of.
func (a *author) row() []api.Stmt {
	n := a.pick(20)
	if a.deep < mostDeep {
		switch n {
		case 0:
			return a.loop()
		case 1:
			return []api.Stmt{{Kind: api.SWhile, E: a.exprs(api.Bool), Body: a.block(a.pick(4))}}
		case 2, 3:
			return []api.Stmt{{Kind: api.SIf, E: a.exprs(api.Bool), Body: a.block(a.pick(4)), Else: a.block(a.pick(3))}}
		}
	}
	switch n {
	case 4, 5, 6, 7:
		return a.declare()
	case 8, 9, 10:
		return a.set()
	case 11, 12:
		return a.put()
	case 13:
		return a.read()
	case 14, 15, 16:
		return a.call()
	case 17:
		return a.halt()
	}
	return a.tell()
}

func (a *author) tell() []api.Stmt {
	return []api.Stmt{{Kind: api.SPrint, E: a.exprs(valueType(a.pick))}}
}

// fresh is a name that the procedure does not have.
func (a *author) fresh() string {
	a.names++
	return "v" + strconv.Itoa(a.names)
}

// declare makes a var statement.
func (a *author) declare() []api.Stmt {
	if a.names >= mostNames {
		return a.tell()
	}
	v := api.Var{Name: a.fresh(), Type: api.Int}
	s := api.Stmt{Kind: api.SVar, Name: v.Name}
	switch a.pick(4) {
	case 0:
		v.Type, s.Num = api.Bool, -1
	case 1:
		v.Size = 1 + a.pick(5)
		s.Num = int64(v.Size)
	}
	a.known = append(a.known, variable{Var: v})
	return []api.Stmt{s}
}

// loop makes a while that is gone through so often, and the variable that counts.
func (a *author) loop() []api.Stmt {
	if a.names >= mostNames {
		return a.tell()
	}
	name := a.fresh()
	a.known = append(a.known, variable{api.Var{Name: name, Type: api.Int}, true})
	counted := api.Expr{Kind: api.EVar, Name: name}
	w := api.Stmt{Kind: api.SWhile, E: []api.Expr{two(counted, "<", whole(int64(a.pick(5))))}}
	w.Body = append(a.block(a.pick(4)), api.Stmt{Kind: api.SSet, Name: name, E: []api.Expr{two(counted, "+", whole(1))}})
	return []api.Stmt{{Kind: api.SVar, Name: name}, w}
}

// single picks a variable of a type that is no array and not fixed.
func (a *author) single(t int) (string, bool) {
	return a.picked(func(v variable) bool { return v.Type == t && v.Size == 0 && !v.fixed })
}

// picked picks a variable that fits.
func (a *author) picked(fits func(v variable) bool) (string, bool) {
	var names []string
	for _, v := range a.known {
		if fits(v) {
			names = append(names, v.Name)
		}
	}
	if len(names) == 0 {
		return "", false
	}
	return of(a.pick, names...), true
}

func (a *author) set() []api.Stmt {
	t := valueType(a.pick)
	name, ok := a.single(t)
	if !ok {
		return a.declare()
	}
	return []api.Stmt{{Kind: api.SSet, Name: name, E: a.exprs(t)}}
}

func (a *author) put() []api.Stmt {
	v, ok := a.array()
	if !ok {
		return a.tell()
	}
	return []api.Stmt{{Kind: api.SPut, Name: v.Name, E: []api.Expr{a.place(v), a.expr(api.Int, 2)}}}
}

func (a *author) read() []api.Stmt {
	name, ok := a.single(api.Int)
	if !ok {
		return a.declare()
	}
	return []api.Stmt{{Kind: api.SRead, Name: name}}
}

// call makes a call.
func (a *author) call() []api.Stmt {
	i := a.pick(len(a.heads))
	if a.mayComeBack(i) && a.pick(6) > 0 {
		return a.tell()
	}
	h := a.heads[i]
	s := api.Stmt{Kind: api.SCall, Proc: h.Name}
	for _, x := range h.Params {
		s.E = append(s.E, a.expr(x.Type, 2))
	}
	if a.pick(4) > 0 {
		s.Name, _ = a.single(h.Type)
	}
	return []api.Stmt{s}
}

// mayComeBack tells whether a procedure may call this one again. Few are to do so, as most of those go on without end.
func (a *author) mayComeBack(i int) bool {
	if a.heads[a.number].Name == "main" {
		return i == a.number
	}
	return i <= a.number || a.heads[i].Name == "main"
}

// halt makes what may end the procedure, or the run.
func (a *author) halt() []api.Stmt {
	if a.pick(3) > 0 {
		return []api.Stmt{{Kind: api.SAssert, E: a.exprs(api.Bool)}}
	}
	return []api.Stmt{a.answer(a.heads[a.number].Type)}
}

// answer makes a return.
func (a *author) answer(t int) api.Stmt {
	if t == api.None {
		return api.Stmt{Kind: api.SReturn}
	}
	return api.Stmt{Kind: api.SReturn, E: a.exprs(t)}
}

// ending makes a statement through which each way returns.
func (a *author) ending(t int) api.Stmt {
	if a.pick(3) > 0 {
		return a.answer(t)
	}
	body := append(a.block(a.pick(2)), a.answer(t))
	return api.Stmt{Kind: api.SIf, E: a.exprs(api.Bool), Body: body, Else: []api.Stmt{a.answer(t)}}
}
