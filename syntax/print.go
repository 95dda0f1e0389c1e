package syntax

import (
	"parallax/api"
	"parallax/num"
)

// writer writes what is right, word by word, and sees how deep its deepest part is.
type writer struct {
	words   []string
	deepest int
}

func (w *writer) put(words ...string) { w.words = append(w.words, words...) }

// reach sees a part that is so deep.
func (w *writer) reach(deep int) {
	if deep > w.deepest {
		w.deepest = deep
	}
}

// text is what was written, if none of it is too deep.
func (w *writer) text() (string, api.Errno) {
	if w.deepest > api.MaxDeep {
		return "", api.ErrDeep
	}
	return num.Join(w.words...), api.OK
}

func (w *writer) prog(p api.Prog) {
	for _, x := range p.Procs {
		w.proc(x)
	}
}

func (w *writer) proc(p api.Proc) {
	w.put("proc", p.Name, "(")
	for i, x := range p.Params {
		if i > 0 {
			w.put(",")
		}
		w.put(typeWord(x.Type), x.Name)
	}
	w.put(")")
	if p.Type != api.None {
		w.put(typeWord(p.Type))
	}
	w.block(p.Body, 1)
}

func typeWord(t int) string {
	if t == api.Bool {
		return "bool"
	}
	return "int"
}

// block writes a block whose statements are so deep.
func (w *writer) block(l []api.Stmt, deep int) {
	w.put("{")
	for _, s := range l {
		w.stmt(s, deep)
	}
	w.put("}")
}

func (w *writer) stmt(s api.Stmt, deep int) {
	w.reach(deep)
	switch s.Kind {
	case api.SIf:
		w.asked("if", s, deep)
		if len(s.Else) > 0 {
			w.put("else")
			w.block(s.Else, deep+1)
		}
		return
	case api.SWhile:
		w.asked("while", s, deep)
		return
	case api.SVar:
		w.declared(s)
	case api.SSet:
		w.put(s.Name, "=")
		w.exprs(s.E, deep+1)
	case api.SPut:
		w.put(s.Name, "[")
		w.expr(s.E[0], deep+1)
		w.put("]", "=")
		w.expr(s.E[1], deep+1)
	case api.SCall:
		w.call(s, deep)
	case api.SReturn:
		w.put("return")
		w.exprs(s.E, deep+1)
	case api.SPrint:
		w.put("print")
		w.exprs(s.E, deep+1)
	case api.SAssert:
		w.put("assert")
		w.exprs(s.E, deep+1)
	case api.SRead:
		w.put("read", s.Name)
	}
	w.put(";")
}

// asked writes an if or a while up to the end of its first block.
func (w *writer) asked(word string, s api.Stmt, deep int) {
	w.put(word, "(")
	w.expr(s.E[0], deep+1)
	w.put(")")
	w.block(s.Body, deep+1)
}

func (w *writer) declared(s api.Stmt) {
	switch {
	case s.Num < 0:
		w.put("var", "bool", s.Name)
	case s.Num > 0:
		w.put("var", s.Name, "[", num.Text(s.Num), "]")
	default:
		w.put("var", s.Name)
	}
}

func (w *writer) call(s api.Stmt, deep int) {
	if s.Name != "" {
		w.put(s.Name, "=")
	}
	w.put(s.Proc, "(")
	w.exprs(s.E, deep+1)
	w.put(")")
}

// exprs writes expressions with a comma between any two.
func (w *writer) exprs(l []api.Expr, deep int) {
	for i, x := range l {
		if i > 0 {
			w.put(",")
		}
		w.expr(x, deep)
	}
}

func (w *writer) expr(x api.Expr, deep int) {
	w.reach(deep)
	switch x.Kind {
	case api.EInt:
		w.put(num.Text(x.Num))
	case api.EBool:
		w.put(boolWord(x.Num))
	case api.EVar:
		w.put(x.Name)
	case api.EIndex:
		w.put(x.Name, "[")
		w.expr(x.L[0], deep+1)
		w.put("]")
	case api.EUn:
		w.put(x.Name)
		w.operand(x.L[0], deep+1)
	case api.EBin:
		w.operand(x.L[0], deep)
		w.put(x.Name)
		w.operand(x.L[1], deep)
	}
}

func boolWord(n int64) string {
	if n == 1 {
		return "true"
	}
	return "false"
}

// operand writes what stands beside a sign, or behind a unary one: two with a sign between stand in brackets there.
func (w *writer) operand(x api.Expr, deep int) {
	if x.Kind != api.EBin {
		w.expr(x, deep)
		return
	}
	w.put("(")
	w.expr(x, deep+1)
	w.put(")")
}
