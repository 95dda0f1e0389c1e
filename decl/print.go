package decl

import (
	"parallax/api"
	"parallax/lex"
	"parallax/num"
	"parallax/syntax"
)

// writer writes a file, word by word, and gives up at what can not be written.
type writer struct {
	words []string
}

func (w *writer) put(words ...string) { w.words = append(w.words, words...) }

func (w *writer) file(f File) {
	lines(w, "pair", f.Pairs, w.pair)
	lines(w, "same", f.Sames, w.same)
	lines(w, "keep", f.Keeps, func(k Keep) { w.variable(k.Side, k.Proc, k.Var) })
	lines(w, "break", f.Breaks, w.stop)
	lines(w, "watch", f.Watches, func(x Watch) { w.variable(x.Side, x.Proc, x.Var) })
	for kind, n := range [kinds]int{len(f.Pairs), len(f.Sames), len(f.Keeps), len(f.Breaks), len(f.Watches)} {
		must(n <= most[kind], api.ErrLong)
	}
}

// lines writes a line of each item of a kind: its first word, what else it says, and its end.
func lines[T any](w *writer, first string, l []T, say func(T)) {
	for _, x := range l {
		w.put(first)
		say(x)
		w.put(";")
	}
}

func (w *writer) pair(p api.Pair) {
	must(p.VarA == "" && p.VarB == "", api.ErrForm)
	w.name(p.ProcA)
	w.name(p.ProcB)
}

func (w *writer) same(s api.Pair) {
	w.name(s.ProcA)
	w.bracketed(s.VarA)
	w.name(s.ProcB)
	w.bracketed(s.VarB)
}

func (w *writer) variable(side int, proc, name string) {
	w.side(side)
	w.name(proc)
	w.name(name)
}

func (w *writer) stop(b Break) {
	must(b.Mark >= 0 && len(b.When) <= 1, api.ErrForm)
	w.side(b.Side)
	w.name(b.Proc)
	w.put(num.Text(b.Mark))
	for _, x := range b.When {
		text, e := syntax.PrintExpr(x)
		must(e == api.OK, api.ErrForm)
		w.put("when", text)
	}
}

func (w *writer) name(s string) {
	must(lex.IsName(s), api.ErrForm)
	w.put(s)
}

func (w *writer) bracketed(name string) {
	w.put("(")
	w.name(name)
	w.put(")")
}

func (w *writer) side(n int) {
	switch n {
	case left:
		w.put("left")
	case right:
		w.put("right")
	default:
		panic(api.ErrForm)
	}
}
