package syntax_test

import (
	"math/rand/v2"
	"strconv"
	"strings"

	"parallax/api"
)

// part is a part of a text: the number of its first word, and how deep it is.
type part struct {
	word, deep int
}

// speller spells programs word by word, and keeps what the document says of the words: which of them begin parts, which stand at marks.
type speller struct {
	words     []string
	parts     []part
	marks     [][]int     // of each procedure: the numbers of the words
	canonical bool        // each two with a sign between stand in brackets beside a sign
	more      func() bool // whether to put brackets that need not be, or an else without statements
	short     bool        // something was missing that has to be spelt
}

func never() bool { return false }

func canonical() *speller { return &speller{canonical: true, more: never} }

func sparing() *speller { return &speller{more: never} }

func lavish(r *rand.Rand) *speller {
	return &speller{more: func() bool { return r.IntN(5) == 0 }}
}

func (s *speller) put(words ...string) { s.words = append(s.words, words...) }

func (s *speller) part(deep int) { s.parts = append(s.parts, part{len(s.words), deep}) }

func (s *speller) mark() {
	last := len(s.marks) - 1
	s.marks[last] = append(s.marks[last], len(s.words))
}

// text is the words with a blank between any two, and where each word, and the end, begins.
func (s *speller) text() (string, []int) { return spaced(s.words, func() string { return " " }) }

// spaced is words with blanks between, and where each word, and the end, begins.
func spaced(words []string, blanks func() string) (string, []int) {
	var b strings.Builder
	var at []int
	for i, w := range words {
		if i > 0 {
			b.WriteString(blanks())
		}
		at = append(at, b.Len())
		b.WriteString(w)
	}
	return b.String(), append(at, b.Len())
}

// tooDeep is the number of the first word that begins a part which is too deep; -1, if there is none.
func (s *speller) tooDeep() int {
	for _, p := range s.parts { // they stand in order
		if p.deep > api.MaxDeep {
			return p.word
		}
	}
	return -1
}

var typeWords = [3]string{"", "int", "bool"}

func (s *speller) prog(p api.Prog) *speller {
	for _, x := range p.Procs {
		s.marks = append(s.marks, nil)
		s.mark()
		s.put("proc", x.Name, "(")
		for i, q := range x.Params {
			if i > 0 {
				s.put(",")
			}
			s.put(s.typeWord(q.Type), q.Name)
		}
		s.put(")")
		if x.Type != api.None {
			s.put(s.typeWord(x.Type))
		}
		s.block(x.Body, 1)
		s.marks[len(s.marks)-1] = append(s.marks[len(s.marks)-1], len(s.words)-1)
	}
	return s
}

func (s *speller) typeWord(t int) string {
	if t < 1 || t > 2 {
		s.short = true
		return ""
	}
	return typeWords[t]
}

func (s *speller) block(l []api.Stmt, deep int) {
	s.put("{")
	for _, x := range l {
		s.stmt(x, deep)
	}
	s.put("}")
}

// e spells a statement's expression of that number.
func (s *speller) e(x api.Stmt, i, deep int) {
	if i >= len(x.E) {
		s.short = true
		return
	}
	s.expr(x.E[i], deep+1)
}

func (s *speller) stmt(x api.Stmt, deep int) {
	s.part(deep)
	s.mark()
	switch x.Kind {
	case api.SVar:
		switch {
		case x.Num == 0:
			s.put("var", x.Name, ";")
		case x.Num == -1:
			s.put("var", "bool", x.Name, ";")
		default:
			s.put("var", x.Name, "[", strconv.FormatInt(x.Num, 10), "]", ";")
		}
	case api.SSet:
		s.put(x.Name, "=")
		s.e(x, 0, deep)
		s.put(";")
	case api.SPut:
		s.put(x.Name, "[")
		s.e(x, 0, deep)
		s.put("]", "=")
		s.e(x, 1, deep)
		s.put(";")
	case api.SIf:
		s.put("if", "(")
		s.e(x, 0, deep)
		s.put(")")
		s.block(x.Body, deep+1)
		if len(x.Else) > 0 || s.more() {
			s.put("else")
			s.block(x.Else, deep+1)
		}
	case api.SWhile:
		s.put("while", "(")
		s.e(x, 0, deep)
		s.put(")")
		s.block(x.Body, deep+1)
	case api.SCall:
		s.call(x, deep)
	case api.SReturn:
		s.put("return")
		if len(x.E) > 0 {
			s.e(x, 0, deep)
		}
		s.put(";")
	case api.SPrint:
		s.put("print")
		s.e(x, 0, deep)
		s.put(";")
	case api.SRead:
		s.put("read", x.Name, ";")
	case api.SAssert:
		s.put("assert")
		s.e(x, 0, deep)
		s.put(";")
	default:
		s.short = true
	}
}

func (s *speller) call(x api.Stmt, deep int) {
	if x.Name != "" {
		s.put(x.Name, "=")
	}
	s.put(x.Proc, "(")
	for i := range x.E {
		if i > 0 {
			s.put(",")
		}
		s.e(x, i, deep)
	}
	s.put(")", ";")
}

var bounds = map[string]int{
	"||": 1, "&&": 2, "==": 3, "!=": 3, "<": 3, "<=": 3, "+": 4, "-": 4, "*": 5, "/": 5, "%": 5,
}

const tightest = 6

// expr spells an expression that is a part.
func (s *speller) expr(x api.Expr, deep int) {
	s.part(deep)
	s.operand(x, 1, deep)
}

// operand spells an expression where signs stand that bind as tightly as that or more.
func (s *speller) operand(x api.Expr, tight, deep int) {
	if x.Kind == api.EBin && bounds[x.Name] == 0 {
		s.short = true
		return
	}
	if x.Kind == api.EBin && bounds[x.Name] < tight || s.more() {
		s.put("(")
		s.expr(x, deep+1)
		s.put(")")
		return
	}
	s.bare(x, deep)
}

func (s *speller) bare(x api.Expr, deep int) {
	parts := [7]int{0, 0, 0, 0, 1, 1, 2}
	if x.Kind < 1 || x.Kind > 6 || len(x.L) != parts[x.Kind] {
		s.short = true
		return
	}
	switch x.Kind {
	case api.EInt:
		s.put(strconv.FormatInt(x.Num, 10))
	case api.EBool:
		s.put([2]string{"false", "true"}[x.Num&1])
	case api.EVar:
		s.put(x.Name)
	case api.EIndex:
		s.put(x.Name, "[")
		s.expr(x.L[0], deep+1)
		s.put("]")
	case api.EUn:
		s.put(x.Name)
		s.part(deep + 1)
		s.operand(x.L[0], tightest, deep+1)
	case api.EBin:
		left, right := bounds[x.Name], bounds[x.Name]+1
		if left == bounds["<"] {
			left++
		}
		if s.canonical {
			left, right = tightest, tightest
		}
		s.operand(x.L[0], left, deep)
		s.put(x.Name)
		s.operand(x.L[1], right, deep)
	}
}
