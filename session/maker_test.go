package session_test

import (
	"math/rand/v2"
	"slices"
	"strconv"
	"strings"
	"testing"

	"parallax/api"
	"parallax/check"
	"parallax/decl"
	"parallax/sample"
	"parallax/session"
	"parallax/syntax"
)

// pair is two programs, and what their procedures have.
type pair struct {
	progs [2]api.Prog
	infos [2]check.Info
}

// somePair makes programs of which the second one often is the first one with a thing or two changed.
func somePair(r *rand.Rand) pair {
	var x pair
	x.progs = [2]api.Prog{sample.Prog(r.IntN), sample.Prog(r.IntN)}
	if r.IntN(3) > 0 {
		x.progs[1] = x.progs[0]
	}
	for range r.IntN(30) {
		if p := sample.Bent(r.IntN, x.progs[1]); right(p) {
			x.progs[1] = p
		}
	}
	for i, p := range x.progs {
		x.infos[i], _, _ = check.Check(p)
	}
	return x
}

// right tells whether a source can be a program's, one without a fault.
func right(p api.Prog) bool {
	_, _, e := check.Check(p)
	_, unwritten := syntax.Print(p)
	return e == api.OK && unwritten == api.OK
}

// text is a program's, with other blanks, and remarks.
func text(t *testing.T, r *rand.Rand, p api.Prog) string {
	t.Helper()
	s, e := syntax.Print(p)
	if e != api.OK {
		t.Fatalf("Print: %d", e)
	}
	return spaced(r, s)
}

func spaced(r *rand.Rand, s string) string {
	var b strings.Builder
	for _, w := range strings.Split(" "+s, " ") {
		b.WriteString([]string{"", "", "", "", "\n  ", " ", "# } proc x\n"}[r.IntN(7)])
		b.WriteString(w + " ")
	}
	return b.String()
}

// bentText is a text with a piece gone, or put in.
func bentText(r *rand.Rand, s string) string {
	i := r.IntN(len(s) + 1)
	if r.IntN(2) == 0 {
		return s[:i] + []string{";", "x", "@", "}", "{", "01"}[r.IntN(6)] + s[i:]
	}
	return s[:i] + s[min(len(s), i+1+r.IntN(3)):]
}

// someVar is a procedure of a side, and a variable of it: "", if it has none.
func (x pair) someVar(r *rand.Rand, side int) (string, api.Var) {
	k := r.IntN(len(x.progs[side].Procs))
	name, l := x.progs[side].Procs[k].Name, x.infos[side].Vars[k]
	if len(l) == 0 {
		return name, api.Var{}
	}
	return name, l[r.IntN(len(l))]
}

// exprs are the expressions of statements, and the marks at which they stand.
func exprs(p api.Proc) ([]api.Expr, []int) {
	var l []api.Expr
	var at []int
	for m := 1; m <= check.Count(p); m++ {
		s, _ := check.Stmt(p, m)
		for _, e := range s.E {
			l, at = append(l, e), append(at, m)
		}
	}
	return l, at
}

// someBreak is most often one that fits.
func (x pair) someBreak(r *rand.Rand, side int) decl.Break {
	k := r.IntN(len(x.progs[side].Procs))
	p := x.progs[side].Procs[k]
	b := decl.Break{Side: side, Proc: p.Name, Mark: int64(r.IntN(x.infos[side].Marks[k] + 2))}
	l, at := exprs(p)
	if len(l) == 0 || r.IntN(3) == 0 {
		return b
	}
	i := r.IntN(len(l))
	e := l[i]
	b.Mark = int64(at[i])
	kind, _ := check.TypeOf(e, x.infos[side].Vars[k], at[i])
	if kind == api.Int && r.IntN(8) > 0 {
		e = api.Expr{Kind: api.EBin, Name: []string{"<", "<=", "==", "!="}[r.IntN(4)], L: []api.Expr{e, {Kind: api.EInt, Num: int64(r.IntN(4))}}}
	}
	b.When = []api.Expr{e}
	return b
}

// someFile declares things of two programs, nearly all of which fit.
func (x pair) someFile(r *rand.Rand, plain [2]bool) decl.File {
	var f decl.File
	fits := func(g decl.File) {
		if _, e := decl.Check(g, x.progs[0], x.progs[1]); e == api.OK || r.IntN(300) == 0 {
			f = g
		}
	}
	for range 1 + r.IntN(8) {
		g := f
		p, v := x.someVar(r, 0)
		q, w := x.someVar(r, 1)
		if r.IntN(3) > 0 {
			q = p
		}
		g.Pairs = append(slices.Clone(g.Pairs), api.Pair{ProcA: p, ProcB: q})
		fits(g)
		g = f
		if r.IntN(3) > 0 {
			w = v
		}
		g.Sames = append(slices.Clone(g.Sames), api.Pair{ProcA: p, ProcB: q, VarA: v.Name, VarB: w.Name})
		fits(g)
	}
	for range r.IntN(9) {
		side := r.IntN(2)
		g := f
		p, v := x.someVar(r, side)
		g.Watches = append(slices.Clone(g.Watches), decl.Watch{Side: side, Proc: p, Var: v.Name})
		if !plain[side] && r.IntN(60) > 0 {
			g.Keeps = append(slices.Clone(g.Keeps), decl.Keep{Side: side, Proc: p, Var: v.Name})
		}
		fits(g)
		g = f
		b := x.someBreak(r, side)
		g.Breaks = append(slices.Clone(g.Breaks), b)
		for _, e := range b.When {
			for _, name := range names(e) {
				if len(g.Keeps) < api.MaxPairs && !plain[side] && r.IntN(60) > 0 {
					g.Keeps = append(slices.Clone(g.Keeps), decl.Keep{Side: side, Proc: b.Proc, Var: name})
				}
			}
		}
		fits(g)
	}
	return f
}

// someSetup makes a setup, nearly always one without a fault; and its programs.
func someSetup(t *testing.T, r *rand.Rand) (session.Setup, pair) {
	t.Helper()
	x := somePair(r)
	s := session.Setup{PlainLeft: r.IntN(2) == 0, PlainRight: r.IntN(2) == 0, Fuel: r.IntN(160), Every: 1 + r.IntN(9), Room: 1 + r.IntN(9), Limit: r.IntN(60) - 2}
	s.Left, s.Right = text(t, r, x.progs[0]), text(t, r, x.progs[1])
	file, e := decl.Print(x.someFile(r, [2]bool{s.PlainLeft, s.PlainRight}))
	if e == api.OK {
		s.Decl = spaced(r, file)
	}
	for range r.IntN(8) {
		s.Input = append(s.Input, int64(r.IntN(9)-2))
	}
	return s, x
}

// wrongly puts a fault into a setup, most often.
func wrongly(t *testing.T, r *rand.Rand, s session.Setup, x pair) session.Setup {
	t.Helper()
	for range 1 + r.IntN(2) {
		switch r.IntN(6) {
		case 0:
			s.Left = bentText(r, s.Left)
		case 1:
			s.Right = bentText(r, s.Right)
		case 2:
			s.Decl = bentText(r, s.Decl)
		case 3:
			if p, e := syntax.Print(sample.Bent(r.IntN, x.progs[0])); e == api.OK {
				s.Left = spaced(r, p)
			}
		case 4:
			s.Right = s.Right + [...]string{"proc main ( ) { }", "proc k ( int a ) { var a ; }", "proc k ( ) int { }"}[r.IntN(3)]
		case 5:
			s.Every, s.Room, s.Fuel = r.IntN(3)-1, r.IntN(3)-1, r.IntN(4)-2
		}
	}
	return s
}

// someSide is a side's word.
func someSide(r *rand.Rand) string { return []string{"left", "right", "both"}[r.IntN(3)] }

// someExpr is the text of an expression that often fits.
func (x pair) someExpr(r *rand.Rand) string {
	side := r.IntN(2)
	p := x.progs[side].Procs[r.IntN(len(x.progs[side].Procs))]
	l, _ := exprs(p)
	if _, v := x.someVar(r, side); v.Name != "" && r.IntN(3) == 0 {
		return v.Name
	}
	if len(l) == 0 {
		return "1 / 0"
	}
	s, e := syntax.PrintExpr(l[r.IntN(len(l))])
	if e != api.OK || r.IntN(20) == 0 {
		return bentText(r, s)
	}
	return s
}

// someDeclared is what stands behind the words break or watch and a side.
func (x pair) someDeclared(r *rand.Rand, word string) string {
	side := r.IntN(2)
	s := ""
	if word == "watch" {
		p, v := x.someVar(r, side)
		s = p + " " + v.Name
	} else if f, e := decl.Print(decl.File{Breaks: []decl.Break{x.someBreak(r, side)}}); e == api.OK {
		s = strings.TrimSuffix(strings.Join(strings.Split(f, " ")[2:], " "), " ;")
	}
	if r.IntN(12) == 0 {
		s += [...]string{" ;", " ; pair main main", " 1", " # x", "  ", " when true"}[r.IntN(6)]
	}
	return s
}

// someLine is most often a command.
func (x pair) someLine(r *rand.Rand) string {
	n := strconv.Itoa(r.IntN(14) - 1)
	if r.IntN(12) == 0 {
		n = [...]string{"9223372036854775807", "-9223372036854775808", "4294967297", "01", "", "x", "-0", "9223372036854775808", "1 "}[r.IntN(9)]
	}
	side := someSide(r)
	if r.IntN(40) == 0 {
		side = [...]string{"", "middle", "Left", "left "}[r.IntN(4)]
	}
	switch r.IntN(12) {
	case 0:
		return "goto " + side + " " + strconv.Itoa(r.IntN(160)-1)
	case 1:
		return []string{"step ", "back ", "list ", "goto "}[r.IntN(4)] + side + " " + n
	case 2:
		return []string{"diverge", "agree", "resync", "report"}[r.IntN(4)]
	case 3, 4:
		return "eval " + side + " " + x.someExpr(r)
	case 5:
		word := []string{"break", "watch"}[r.IntN(2)]
		return word + " " + side + " " + x.someDeclared(r, word)
	case 6:
		return bentText(r, []string{"where left", "step both 2", "diverge", "agree", "eval left 1", "report", "clear left", "run both"}[r.IntN(8)])
	case 7:
		if r.IntN(4) == 0 {
			return "clear " + side
		}
	}
	return []string{"where", "next", "rnext", "finish", "rfinish", "run", "rrun", "run", "rrun", "stack", "events"}[r.IntN(11)] + " " + side
}
