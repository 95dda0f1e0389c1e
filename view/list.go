package view

import (
	"strings"

	"parallax/api"
	"parallax/num"
	"parallax/syntax"
)

// unmarked is the mark of a row that has none.
const unmarked = -1

// closed is how the text of a block without statements ends.
const closed = " }"

// place is where the next row is put: its procedure, the mark that comes, and how many blocks it is in.
type place struct {
	proc, mark, deep int
}

// next is the mark that comes, and goes on to the one behind it.
func (p *place) next() int {
	p.mark++
	return p.mark - 1
}

// blanks are those ahead of a row's text.
func (p *place) blanks() string { return strings.Repeat("  ", p.deep) }

// lister puts down the rows of procedures that can be printed.
type lister struct {
	place
	rows []Row
}

func (l *lister) put(text string, mark int) {
	l.rows = append(l.rows, Row{Text: l.blanks() + text, Proc: l.proc, Mark: mark})
}

func (l *lister) list(p api.Proc) {
	l.put(head(p), l.next())
	l.block(p.Body)
	l.put("}", l.next())
}

// block puts down the rows of the statements in a block.
func (l *lister) block(s []api.Stmt) {
	l.deep++
	for _, x := range s {
		l.stmt(x)
	}
	l.deep--
}

func (l *lister) stmt(s api.Stmt) {
	l.put(words(s), l.next())
	if !opens(s) {
		return
	}
	l.block(s.Body)
	if len(s.Else) > 0 {
		l.put("} else {", unmarked)
		l.block(s.Else)
	}
	l.put("}", unmarked)
}

// opens tells whether a statement has a block.
func opens(s api.Stmt) bool { return s.Kind == api.SIf || s.Kind == api.SWhile }

// head is what stands ahead of a procedure's statements.
func head(p api.Proc) string {
	p.Body = nil
	return strings.TrimSuffix(printed(p), closed)
}

// words are a statement's, or those up to its first block: what is printed of a procedure that has no other one.
func words(s api.Stmt) string {
	s.Body, s.Else = nil, nil
	only := api.Proc{Name: "p", Body: []api.Stmt{s}}
	text := strings.TrimPrefix(printed(only), head(only)+" ")
	text = strings.TrimSuffix(text, closed)
	if opens(s) {
		text = strings.TrimSuffix(text, closed)
	}
	return text
}

// printed is a procedure's text. What is a piece of a program that can be printed can be printed, too.
func printed(p api.Proc) string {
	text, _ := syntax.Print(api.Prog{Procs: []api.Proc{p}})
	return text
}

// pointer points to the row about which others are shown.
func pointer(here bool) string {
	if here {
		return ">"
	}
	return " "
}

// number is a row's, so many bytes wide.
func number(row, wide int) string {
	text := num.Text(int64(row) + 1)
	return strings.Repeat(" ", wide-len(text)) + text
}
