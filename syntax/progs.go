package syntax

import (
	"parallax/api"
	"parallax/lex"
)

// progReader reads programs, and is told where their marks stand.
type progReader struct {
	exprReader
	places [][]int // of each procedure
}

// readProg reads a program and the places of its marks.
func readProg(l []api.Token) (p api.Prog, places [][]int, at int, e api.Errno) {
	if !lex.Right(l) {
		return api.Prog{}, nil, 0, api.ErrForm
	}
	r := progReader{exprReader: exprReader{tokenReader{row: l}}}
	at, e = attempt(func() {
		p = r.prog()
		places = r.places
	})
	return p, places, at, e
}

// mark is told where a mark of the procedure that is being read stands.
func (r *progReader) mark(at int) {
	last := len(r.places) - 1
	r.places[last] = append(r.places[last], at)
}

func (r *progReader) prog() api.Prog {
	var p api.Prog
	for r.now().Kind != api.TEnd {
		p.Procs = append(p.Procs, r.proc())
	}
	return p
}

func (r *progReader) proc() api.Proc {
	r.places = append(r.places, nil)
	r.mark(r.now().At)
	r.must("proc")
	p := api.Proc{Name: r.name()}
	p.Params = r.params()
	if !r.is("{") {
		p.Type = r.valueType()
	}
	p.Body = r.block(1)
	r.mark(r.row[r.next-1].At)
	return p
}

func (r *progReader) params() []api.Param {
	r.must("(")
	if r.has(")") {
		return nil
	}
	l := []api.Param{r.param()}
	for r.has(",") {
		l = append(l, r.param())
	}
	r.must(")")
	return l
}

func (r *progReader) param() api.Param {
	t := r.valueType()
	return api.Param{Name: r.name(), Type: t}
}

func (r *progReader) valueType() int {
	if r.has("int") {
		return api.Int
	}
	r.must("bool")
	return api.Bool
}

// block reads a block whose statements are so deep.
func (r *progReader) block(deep int) []api.Stmt {
	r.must("{")
	var l []api.Stmt
	for !r.has("}") {
		l = append(l, r.stmt(deep))
	}
	return l
}

func (r *progReader) stmt(deep int) api.Stmt {
	t := r.begin(beginsStmt(r.now()), deep)
	r.mark(t.At)
	switch t.Text {
	case "var":
		return r.closed(r.declared())
	case "if":
		return r.branch(deep)
	case "while":
		s := r.asked(api.SWhile, deep)
		s.Body = r.block(deep + 1)
		return s
	case "return":
		return r.closed(r.answered(deep))
	case "print":
		return r.closed(r.told(api.SPrint, deep))
	case "assert":
		return r.closed(r.told(api.SAssert, deep))
	case "read":
		return r.closed(api.Stmt{Kind: api.SRead, Name: r.name()})
	}
	return r.closed(r.named(t.Text, deep))
}

// beginsStmt tells whether a statement can begin with a token.
func beginsStmt(t api.Token) bool {
	switch t.Text {
	case "var", "if", "while", "return", "print", "read", "assert":
		return true
	}
	return t.Kind == api.TName
}

// closed takes the ; behind a statement.
func (r *progReader) closed(s api.Stmt) api.Stmt {
	r.must(";")
	return s
}

// declared reads on behind var.
func (r *progReader) declared() api.Stmt {
	if r.has("bool") {
		return api.Stmt{Kind: api.SVar, Name: r.name(), Num: -1}
	}
	s := api.Stmt{Kind: api.SVar, Name: r.name()}
	if r.has("[") {
		s.Num = r.size()
		r.must("]")
	}
	return s
}

// size takes the integer above 0 that alone can stand there.
func (r *progReader) size() int64 {
	t := r.now()
	if t.Kind != api.TInt || t.Num == 0 {
		panic(r.wrong(api.ErrSyntax))
	}
	r.next++
	return t.Num
}

// branch reads on behind if.
func (r *progReader) branch(deep int) api.Stmt {
	s := r.asked(api.SIf, deep)
	s.Body = r.block(deep + 1)
	if r.has("else") {
		s.Else = r.block(deep + 1)
	}
	return s
}

// asked reads what an if or a while asks. Its brackets are the statement's own, and make nothing deeper.
func (r *progReader) asked(kind int, deep int) api.Stmt {
	r.must("(")
	s := r.told(kind, deep)
	r.must(")")
	return s
}

// told reads a statement's one expression.
func (r *progReader) told(kind int, deep int) api.Stmt {
	return api.Stmt{Kind: kind, E: []api.Expr{r.expr(deep + 1)}}
}

// answered reads on behind return.
func (r *progReader) answered(deep int) api.Stmt {
	if r.is(";") {
		return api.Stmt{Kind: api.SReturn}
	}
	return r.told(api.SReturn, deep)
}

// named reads on behind the name that a statement begins with.
func (r *progReader) named(name string, deep int) api.Stmt {
	switch {
	case r.has("("):
		return api.Stmt{Kind: api.SCall, Proc: name, E: r.args(deep + 1)}
	case r.has("["):
		return r.put(name, deep)
	}
	r.must("=")
	if r.callIsNext() {
		s := api.Stmt{Kind: api.SCall, Name: name, Proc: r.name()}
		r.must("(")
		s.E = r.args(deep + 1)
		return s
	}
	s := r.told(api.SSet, deep)
	s.Name = name
	return s
}

// callIsNext tells a procedure's name from an expression's first token, which is a part where the other is none.
func (r *progReader) callIsNext() bool {
	return r.now().Kind == api.TName && r.row[r.next+1].Text == "("
}

// put reads on behind NAME [.
func (r *progReader) put(name string, deep int) api.Stmt {
	index := r.expr(deep + 1)
	r.must("]")
	r.must("=")
	return api.Stmt{Kind: api.SPut, Name: name, E: []api.Expr{index, r.expr(deep + 1)}}
}

// args reads expressions behind a ( up to its ).
func (r *progReader) args(deep int) []api.Expr {
	if r.has(")") {
		return nil
	}
	l := []api.Expr{r.expr(deep)}
	for r.has(",") {
		l = append(l, r.expr(deep))
	}
	r.must(")")
	return l
}
