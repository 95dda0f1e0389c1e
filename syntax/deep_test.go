package syntax_test

import (
	"strings"
	"testing"

	"parallax/api"
	"parallax/syntax"
)

// nested is n times the opening text, the inner one, n times the closing one.
func nested(opening string, n int, inner, closing string) string {
	return strings.Repeat(opening, n) + inner + strings.Repeat(closing, n)
}

func TestDeepExpressions(t *testing.T) { // P3.1, P3.3, P3.8: the inner one is 1 deep, and 1 deeper with each around it
	for _, c := range [][2]string{{"(", ")"}, {"-", ""}, {"!", ""}, {"a[", "]"}, {"1+(", ")"}, {"(", "*2)"}, {"1<a[", "]"}, {"-", "-1"}} {
		for _, inner := range []string{"x", "7", "true", "false", "x+1", "1+x*2<3&&4==5||6"} {
			s := nested(c[0], api.MaxDeep-1, inner, c[1])
			if _, at, e := syntax.Expr(s); at != 0 || e != api.OK {
				t.Errorf("Expr(%q): %d, %d", s, at, e)
			}
			s = nested(c[0], api.MaxDeep, inner, c[1])
			place := len(c[0]) * api.MaxDeep
			if x, at, e := syntax.Expr(s); !sameExpr(x, api.Expr{}) || at != place || e != api.ErrDeep {
				t.Errorf("Expr(%q): %v, %d, %d; want %d", s, x, at, e, place)
			}
			if x, next, at, e := syntax.ReadExpr(scanned(s), 0); !sameExpr(x, api.Expr{}) || next != 0 || at != place || e != api.ErrDeep {
				t.Errorf("ReadExpr(%q): %v, %d, %d, %d; want %d", s, x, next, at, e, place)
			}
			// What can not stand there is told as that; what is wrong behind it is not.
			if _, at, e := syntax.Expr(strings.Repeat(c[0], api.MaxDeep) + ";"); at != place || e != api.ErrSyntax {
				t.Errorf("%q: %d, %d", c[0], at, e)
			}
			if _, at, e := syntax.Expr(strings.Repeat(c[0], api.MaxDeep) + "x;"); at != place || e != api.ErrDeep {
				t.Errorf("%q: %d, %d", c[0], at, e)
			}
			if _, at, e := syntax.Expr(strings.Repeat(c[0], api.MaxDeep+9) + ";"); at != place || e != api.ErrDeep {
				t.Errorf("%q: %d, %d", c[0], at, e)
			}
			// One that can not stand ahead of it is the first.
			if _, at, e := syntax.Expr("(;" + s); at != 1 || e != api.ErrSyntax {
				t.Errorf("%q: %d, %d", c[0], at, e)
			}
		}
	}
}

func TestWhatStandsBesideASignIsNoDeeper(t *testing.T) { // P3.1
	long := "x" + strings.Repeat("+x", 900)
	for _, s := range []string{long, long + "<" + long, "(" + long + ")*2", "-x" + strings.Repeat("*-x", 1000), "x" + strings.Repeat("||x&&x", 500)} {
		if _, at, e := syntax.Expr(s); at != 0 || e != api.OK {
			t.Errorf("Expr(%.20q): %d, %d", s, at, e)
		}
	}
	s := strings.Repeat("(", api.MaxDeep-1) + long + strings.Repeat(")", api.MaxDeep-1)
	if _, at, e := syntax.Expr(s); at != 0 || e != api.OK {
		t.Errorf("Expr(%.20q): %d, %d", s, at, e)
	}
}

// blocks is a program with so many statements in one another around an inner text, and the place of that.
func blocks(opening string, n int, inner string) (string, int) {
	s := "proc f(){" + strings.Repeat(opening, n)
	return s + inner + strings.Repeat("}", n+1), len(s)
}

func TestDeepStatements(t *testing.T) { // P3.1, P3.2: a statement in n others is n + 1 deep
	for _, opening := range []string{"if(x){", "while(x){", "if(x){}else{", "var y;if(x){read y;}else{return;"} {
		for _, inner := range []string{"", "var x;", "var bool x;", "var x[3];", "read x;", "return;", "g();", "x=g();", "read x;x=g();var y;"} {
			s, _ := blocks(opening, api.MaxDeep-1, inner)
			p, at, e := syntax.Parse(s)
			if at != 0 || e != api.OK {
				t.Errorf("Parse(%q): %d, %d", s, at, e)
			}
			text, e := syntax.Print(p)
			if e != api.OK {
				t.Errorf("Print of %q: %d", s, e)
			}
			reads(t, text, p)
		}
		for _, inner := range []string{"return ^1;", "print ^1;", "assert ^x;", "x=^y;", "x=^(y);", "x=^-y;", "x=^1;", "x[^1]=2;", "g(^1);", "x=g(^1,2);", "if(^x){}", "while(^x){x=1;}", "read x;x=^y+g(1);", "x=^y", "x=^y}", "x=^y=1;"} {
			ahead, behind, _ := strings.Cut(inner, "^")
			s, place := blocks(opening, api.MaxDeep-1, ahead+behind)
			refuses(t, s, place+len(ahead), api.ErrDeep)
		}
		for _, inner := range []string{"return 1+x*3;", "print 1;", "assert x;", "x=y;", "x[1]=2;", "g(1);", "x=g(1,2);", "if(x){}", "while(x){read x;}", "if(x){}else{x=g();}"} {
			s, _ := blocks(opening, api.MaxDeep-2, inner)
			if _, at, e := syntax.Parse(s); at != 0 || e != api.OK {
				t.Errorf("Parse(%q): %d, %d", s, at, e)
			}
		}
		for _, inner := range []string{"return ^}", "print ^;", "x=^;", "x[^]", "g(^,", "x=g(^,", "if(^)", "while(^)", "if ^x", "var ^1", "x=g(^+1)", "x=g()^+1;"} {
			ahead, behind, _ := strings.Cut(inner, "^")
			s, place := blocks(opening, api.MaxDeep-1, ahead+behind)
			refuses(t, s, place+len(ahead), api.ErrSyntax)
		}
	}
}

// within is the program with one more unary sign ahead of each name z.
func within(p api.Prog) api.Prog {
	p = trimmed(p)
	for _, x := range p.Procs {
		deepenStmts(x.Body)
	}
	return p
}

func deepenStmts(l []api.Stmt) {
	for _, s := range l {
		deepenExprs(s.E)
		deepenStmts(s.Body)
		deepenStmts(s.Else)
	}
}

func deepenExprs(l []api.Expr) {
	for i, x := range l {
		if x.Name == "z" {
			l[i] = unary("-", x)
			continue
		}
		deepenExprs(x.L)
	}
}

func TestEachStatementsExpressions(t *testing.T) { // P3.1, P3.2: each is 1 deeper than its statement, read or printed
	for _, stmt := range []string{
		"x = ^ ;", "x [ ^ ] = 1 ;", "x [ 1 ] = ^ ;", "if ( ^ ) { }", "if ( ^ ) { } else { read x ; }", "while ( ^ ) { }", "f ( ^ ) ;", "f ( 1 , ^ ) ;", "f ( 1 , 2 , ^ , 3 ) ;",
		"x = f ( ^ ) ;", "x = f ( 1 , ^ ) ;", "return ^ ;", "print ^ ;", "assert ^ ;", "if ( true ) { print ^ ; }", "if ( true ) { } else { print ^ ; }", "while ( true ) { print ^ ; }",
	} {
		deep := 2 + strings.Count(stmt, "{ print")
		for blocks := range api.MaxDeep - deep {
			ahead, behind, _ := strings.Cut(stmt, "^")
			ahead = "proc f ( ) { " + strings.Repeat("while ( true ) { ", blocks) + ahead + strings.Repeat("- ", api.MaxDeep-deep-blocks)
			behind = " z" + behind + strings.Repeat(" }", blocks+1)
			s := strings.TrimRight(ahead, " ") + behind
			p, at, e := syntax.Parse(s)
			if at != 0 || e != api.OK {
				t.Fatalf("Parse(%q): %d, %d", s, at, e)
			}
			if text, e := syntax.Print(p); text != s || e != api.OK {
				t.Fatalf("Print of %q: %q, %d", s, text, e)
			}
			refuses(t, ahead+"-"+behind, len(ahead)+2, api.ErrDeep)
			if text, e := syntax.Print(within(p)); text != "" || e != api.ErrDeep {
				t.Fatalf("Print beyond %q: %q, %d", s, text, e)
			}
		}
	}
}

func TestStatementsThatAreTooDeep(t *testing.T) { // P3.1: no expression stands at that depth ahead of them
	// A statement that is MaxDeep deep has no block without an expression: so there is no such text but where the expression is told first.
	for _, opening := range []string{"if(x){", "while(x){", "if(x){}else{"} {
		s, _ := blocks(opening, api.MaxDeep, "")
		place := len("proc f(){") + len(opening)*(api.MaxDeep-1) + strings.Index(opening, "x")
		refuses(t, s, place, api.ErrDeep)
	}
}

func TestDeepPrograms(t *testing.T) { // P3.1, P3.9: the first part that is too deep, among others
	m := makes(11)
	deep, right := 0, 0
	for range 4000 {
		p := m.deep(m.IntN(62), m.IntN(62))
		l := lavish(m.Rand).prog(p)
		s, at := l.text()
		if len(s) > api.MaxSource || len(l.words) >= api.MaxTokens {
			continue
		}
		word := l.tooDeep()
		if word >= 0 {
			deep++
			refuses(t, s, at[word], api.ErrDeep)
			continue
		}
		right++
		reads(t, s, p)
	}
	if deep < 500 || right < 500 {
		t.Errorf("%d too deep, %d not", deep, right)
	}
}

func TestDeepPrint(t *testing.T) { // P3.2, P3.3: the brackets that are printed count
	x := variable("x")
	chain := x
	for range api.MaxDeep - 1 {
		chain = two(chain, "+", x)
	}
	// The outermost two stand in no brackets: with n signs there are n - 1 of them.
	s, e := syntax.PrintExpr(two(chain, "+", x))
	if want := nested("( ", api.MaxDeep-1, "x + x", " ) + x"); e != api.OK || s != want {
		t.Errorf("PrintExpr = %q, %d; want %q", s, e, want)
	}
	if _, at, f := syntax.Expr(s); at != 0 || f != api.OK {
		t.Errorf("Expr(%q): %d, %d", s, at, f)
	}
	if s, e := syntax.PrintExpr(two(two(chain, "+", x), "+", x)); s != "" || e != api.ErrDeep {
		t.Errorf("PrintExpr = %q, %d", s, e)
	}
	if s, e := syntax.PrintExpr(unary("-", two(chain, "+", x))); s != "" || e != api.ErrDeep {
		t.Errorf("PrintExpr = %q, %d", s, e)
	}
	if s, e := syntax.PrintExpr(two(x, "*", two(two(chain, "+", x), "+", x))); s != "" || e != api.ErrDeep {
		t.Errorf("PrintExpr = %q, %d", s, e)
	}
	// What is not right is told ahead of what is too deep.
	if s, e := syntax.PrintExpr(two(two(two(chain, "+", x), "+", x), "+", api.Expr{})); s != "" || e != api.ErrForm {
		t.Errorf("PrintExpr = %q, %d", s, e)
	}
	p := mainOf(api.Stmt{Kind: api.SPrint, E: []api.Expr{two(two(chain, "+", x), "+", x)}}, api.Stmt{Kind: api.SRead})
	if s, e := syntax.Print(p); s != "" || e != api.ErrForm {
		t.Errorf("Print = %q, %d", s, e)
	}
}

func TestReadButNotPrinted(t *testing.T) { // P3.2, P3.5: what needs no brackets to be read may need too many to be printed
	s := "proc f ( ) { print x" + strings.Repeat(" + x", 61) + " ; }"
	p, _, e := syntax.Parse(s)
	if text, f := syntax.Print(p); e != api.OK || text != "" || f != api.ErrDeep {
		t.Errorf("%d; %q, %d", e, text, f)
	}
	s = "proc f ( ) { print x" + strings.Repeat(" + x", 59) + " ; }"
	p, _, e = syntax.Parse(s)
	if text, f := syntax.Print(p); e != api.OK || text != "proc f ( ) { print "+strings.Repeat("( ", 58)+"x"+strings.Repeat(" + x )", 58)+" + x ; }" || f != api.OK {
		t.Errorf("%d; %q, %d", e, text, f)
	}
	p, _, _ = syntax.Parse("proc f ( ) { print x" + strings.Repeat(" + x", 60) + " ; }")
	if text, f := syntax.Print(p); text != "" || f != api.ErrDeep {
		t.Errorf("%q, %d", text, f)
	}
}

func TestDeepProgramsPrinted(t *testing.T) { // P3.2, P3.4
	m := makes(12)
	deep, right := 0, 0
	for range 4000 {
		p := m.deep(m.IntN(62), m.IntN(62))
		l := canonical().prog(p)
		want, _ := l.text()
		s, e := syntax.Print(p)
		if l.tooDeep() >= 0 {
			deep++
			if s != "" || e != api.ErrDeep {
				t.Fatalf("Print(%v) = %q, %d", p, s, e)
			}
			continue
		}
		right++
		if s != want || e != api.OK {
			t.Fatalf("Print(%v) = %q, %d; want %q", p, s, e, want)
		}
		if len(s) <= api.MaxSource && len(l.words) < api.MaxTokens {
			reads(t, s, p)
		}
	}
	if deep < 500 || right < 500 {
		t.Errorf("%d too deep, %d not", deep, right)
	}
}

func TestVeryDeepForms(t *testing.T) { // P1, P3.2
	x := variable("x")
	s := api.Stmt{Kind: api.SRead, Name: "x"}
	for range 1 << 16 {
		x = unary("-", x)
		s = api.Stmt{Kind: api.SWhile, E: []api.Expr{variable("x")}, Body: []api.Stmt{s}}
	}
	if s, e := syntax.PrintExpr(x); s != "" || e != api.ErrDeep {
		t.Errorf("PrintExpr: %d", e)
	}
	if s, e := syntax.Print(mainOf(s)); s != "" || e != api.ErrDeep {
		t.Errorf("Print: %d", e)
	}
	var l []api.Token
	for range 1 << 16 {
		l = append(l, api.Token{Kind: api.TSign, Text: "-"})
	}
	if _, _, _, e := syntax.ReadExpr(append(l, api.Token{}), 0); e != api.ErrDeep {
		t.Errorf("ReadExpr: %d", e)
	}
}
