package decl

import (
	"slices"

	"parallax/api"
	"parallax/lex"
	"parallax/syntax"
)

// reader goes through a row of tokens that is right, and puts down what its lines say.
type reader struct {
	row    []api.Token
	next   int
	at     int // where it gave up
	file   File
	places [kinds][]int
}

// read reads a file.
func read(s string) (reader, api.Errno) {
	row, at, e := lex.Scan(s)
	r := reader{row: row, at: at}
	if e == api.OK {
		e = attempt(r.lines)
	}
	return r, e
}

// lines reads all lines. That there are too many of a kind is told behind all that can not stand, as the promise names it last.
func (r *reader) lines() {
	for r.now().Kind != api.TEnd {
		r.line()
	}
	if at, found := r.tooMany(); found {
		r.giveUp(at, api.ErrLong)
	}
}

// tooMany is the place of the first line that is one more than there may be of its kind, if there is one.
func (r *reader) tooMany() (int, bool) {
	first, found := 0, false
	for kind, l := range r.places {
		if len(l) > most[kind] && (!found || l[most[kind]] < first) {
			first, found = l[most[kind]], true
		}
	}
	return first, found
}

// giveUp gives up at a place.
func (r *reader) giveUp(at int, e api.Errno) {
	r.at = at
	panic(e)
}

func (r *reader) line() {
	at := r.now().At
	kind := r.oneOf("pair", "same", "keep", "break", "watch")
	r.places[kind] = append(r.places[kind], at)
	switch kind {
	case pairs:
		put(r, &r.file.Pairs, api.Pair{ProcA: r.name(), ProcB: r.name()})
	case sames:
		put(r, &r.file.Sames, api.Pair{ProcA: r.name(), VarA: r.bracketed(), ProcB: r.name(), VarB: r.bracketed()})
	case keeps:
		put(r, &r.file.Keeps, Keep{Side: r.side(), Proc: r.name(), Var: r.name()})
	case breaks:
		put(r, &r.file.Breaks, Break{Side: r.side(), Proc: r.name(), Mark: r.integer(), When: r.when()})
	case watches:
		put(r, &r.file.Watches, Watch{Side: r.side(), Proc: r.name(), Var: r.name()})
	}
}

// put takes the end of a line, and puts what it says behind what those of its kind said.
func put[T any](r *reader, l *[]T, said T) {
	r.sign(";")
	*l = append(*l, said)
}

// now is the token that is next. The end is never taken, so that there always is one.
func (r *reader) now() api.Token { return r.row[r.next] }

// take takes the token that is next, if it can stand there.
func (r *reader) take(fits bool) api.Token {
	t := r.now()
	if !fits {
		r.giveUp(t.At, api.ErrSyntax)
	}
	r.next++
	return t
}

func (r *reader) sign(text string) { r.take(r.now().Text == text) }

func (r *reader) name() string { return r.take(r.now().Kind == api.TName).Text }

func (r *reader) integer() int64 { return r.take(r.now().Kind == api.TInt).Num }

// oneOf takes one of some words, and tells which one. They are spelt as no key word or sign is.
func (r *reader) oneOf(words ...string) int {
	i := slices.Index(words, r.now().Text)
	r.take(i >= 0)
	return i
}

func (r *reader) side() int { return r.oneOf("left", "right") }

// bracketed takes a name in brackets.
func (r *reader) bracketed() string {
	r.sign("(")
	name := r.name()
	r.sign(")")
	return name
}

// when reads what a break asks, if it asks something.
func (r *reader) when() []api.Expr {
	if r.now().Text != "when" {
		return nil
	}
	x, next, at, e := syntax.ReadExpr(r.row, r.next+1)
	if e != api.OK {
		r.giveUp(at, e)
	}
	r.next = next
	return []api.Expr{x}
}
