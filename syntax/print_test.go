package syntax_test

import (
	"math"
	"reflect"
	"strings"
	"testing"

	"parallax/api"
	"parallax/syntax"
)

func TestPrint(t *testing.T) { // P3.2: what is read, what is printed
	for s, want := range map[string]string{
		"proc main ( ) { print 1 + 2 * 3 ; }": "proc main ( ) { print 1 + ( 2 * 3 ) ; }",
		"":                                    "",
		"# nothing":                           "",
		"proc f(){}":                          "proc f ( ) { }",
		"proc f(int a,bool b)bool{}proc g()int{}":                "proc f ( int a , bool b ) bool { } proc g ( ) int { }",
		"proc f(){var x;var bool y;var z[9];}":                   "proc f ( ) { var x ; var bool y ; var z [ 9 ] ; }",
		"proc f(){x=1;x[1]=x[2];}":                               "proc f ( ) { x = 1 ; x [ 1 ] = x [ 2 ] ; }",
		"proc f(){x=(1+2);x[(1+2)]=((x[(2+3)]));}":               "proc f ( ) { x = 1 + 2 ; x [ 1 + 2 ] = x [ 2 + 3 ] ; }",
		"proc f(){if(x){}if(x){}else{}}":                         "proc f ( ) { if ( x ) { } if ( x ) { } }",
		"proc f(){if(x){read y;}else{if(x){}else{read y;}}}":     "proc f ( ) { if ( x ) { read y ; } else { if ( x ) { } else { read y ; } } }",
		"proc f(){if((x<y)){}while((x==y)){x=1;}}":               "proc f ( ) { if ( x < y ) { } while ( x == y ) { x = 1 ; } }",
		"proc f(){g();g(1);g(1,(x+y),z);x=g();x=g(1,2);}":        "proc f ( ) { g ( ) ; g ( 1 ) ; g ( 1 , x + y , z ) ; x = g ( ) ; x = g ( 1 , 2 ) ; }",
		"proc f(){return;return 1;return (1-2);}":                "proc f ( ) { return ; return 1 ; return 1 - 2 ; }",
		"proc f(){read x;assert x<=1;print true;print !false;}":  "proc f ( ) { read x ; assert x <= 1 ; print true ; print ! false ; }",
		"proc f(){print -(-x);print -(x+1);print -x[1];}":        "proc f ( ) { print - - x ; print - ( x + 1 ) ; print - x [ 1 ] ; }",
		"proc f(){print -x*-y;print (-x)-(!y);}":                 "proc f ( ) { print - x * - y ; print - x - ! y ; }",
		"proc f(){print 1+2+3;print 1+(2+3);print(1);}":          "proc f ( ) { print ( 1 + 2 ) + 3 ; print 1 + ( 2 + 3 ) ; print 1 ; }",
		"proc f(){print a||b&&c==d-e*g;}":                        "proc f ( ) { print a || ( b && ( c == ( d - ( e * g ) ) ) ) ; }",
		"proc f(){print 9223372036854775807;print 0;}# the end ": "proc f ( ) { print 9223372036854775807 ; print 0 ; }",
	} {
		p, at, e := syntax.Parse(s)
		if e != api.OK {
			t.Errorf("Parse(%q): %d, %d", s, at, e)
			continue
		}
		got, e := syntax.Print(p)
		if got != want || e != api.OK {
			t.Errorf("Print of %q = %q, %d; want %q", s, got, e, want)
		}
		reads(t, want, p)
	}
}

func TestPrintExpr(t *testing.T) { // P3.3
	for _, s := range []string{"1", "true", "false", "x", "x [ 1 ]", "- x", "! - x", "- ( x + y )", "1 < 2", "( 1 < 2 ) == ( 3 < 4 )", "x [ 1 + 2 ] * - y", "- ( - x * y )", "! ( a || b )"} {
		x, at, e := syntax.Expr(s)
		if e != api.OK {
			t.Errorf("Expr(%q): %d, %d", s, at, e)
		}
		if got, e := syntax.PrintExpr(x); got != s || e != api.OK {
			t.Errorf("PrintExpr of %q = %q, %d", s, got, e)
		}
	}
}

func TestPrintedIsReadAsTheSame(t *testing.T) { // P3.2, P3.4, P3.5
	m := makes(21)
	for range 3000 {
		p := m.prog(3)
		l := canonical().prog(p)
		want, _ := l.text()
		s, e := syntax.Print(p)
		if s != want || e != api.OK {
			t.Fatalf("Print(%v) = %q, %d; want %q", p, s, e, want)
		}
		if len(s) > api.MaxSource || len(l.words) >= api.MaxTokens {
			continue
		}
		reads(t, s, p)
		again, _, _ := syntax.Parse(s)
		if got, e := syntax.Print(again); got != s || e != api.OK {
			t.Fatalf("Print of %q = %q, %d", s, got, e)
		}
		x := m.expr(6)
		k := canonical()
		k.expr(x, 1)
		want, _ = k.text()
		if got, e := syntax.PrintExpr(x); got != want || e != api.OK {
			t.Fatalf("PrintExpr(%v) = %q, %d; want %q", x, got, e, want)
		}
	}
}

func TestPrintedMayBeTooLong(t *testing.T) { // P3.4
	name := strings.Repeat("n", 40)
	var body []api.Stmt
	for range 200 {
		body = append(body, api.Stmt{Kind: api.SCall, Name: name, Proc: name, E: []api.Expr{variable(name)}})
	}
	s, e := syntax.Print(mainOf(body...))
	if len(s) <= api.MaxSource || e != api.OK {
		t.Errorf("Print: %d bytes, %d", len(s), e)
	}
	refuses(t, s, 0, api.ErrLong)
}

// some are expressions of that number, all right.
func some(n int) []api.Expr { return []api.Expr{variable("x"), whole(1), truth(0)}[:n] }

// answered tells whether a program is one that Parse can answer: the text that says most of it is read as all of it.
func answered(p api.Prog) bool {
	l := canonical().prog(p)
	s, _ := l.text()
	got, _, e := syntax.Parse(s)
	return !l.short && e == api.OK && sameProg(got, p)
}

// asks asks that what can not be answered is told as that, and what can be is printed.
func asks(t *testing.T, p api.Prog) bool {
	t.Helper()
	want := api.OK
	if !answered(p) {
		want = api.ErrForm
	}
	s, e := syntax.Print(p)
	if e != want || e != api.OK && s != "" {
		t.Errorf("Print(%v) = %q, %d; want %d", p, s, e, want)
	}
	return want == api.OK
}

func TestStatementsThatAreNotRight(t *testing.T) { // P3.2
	right := 0
	tell := []api.Stmt{{Kind: api.SReturn}}
	for kind := -1; kind <= api.SAssert+1; kind++ {
		for _, name := range []string{"", "x", "if", "+", "1", "x y", "_", strings.Repeat("n", 41)} {
			for _, proc := range []string{"", "f", "int", "("} {
				for _, n := range []int64{math.MinInt64, -2, -1, 0, 1, 64} {
					for size := range 4 {
						for blocks := range 4 {
							s := api.Stmt{Kind: kind, Name: name, Proc: proc, Num: n, E: some(size)}
							if blocks&1 != 0 {
								s.Body = tell
							}
							if blocks&2 != 0 {
								s.Else = tell
							}
							if asks(t, mainOf(s)) {
								right++
							}
						}
					}
				}
			}
		}
	}
	// var: 4; =, [ ] =, read: 1 each; if: 4; while: 2; a call: 8; return: 2; print, assert: 1 each.
	if want := 4 + 3 + 4 + 2 + 8 + 2 + 2; right != want {
		t.Errorf("%d are right, want %d", right, want)
	}
}

func TestExpressionsThatAreNotRight(t *testing.T) { // P3.2, P3.3
	right := 0
	for kind := -1; kind <= api.EBin+1; kind++ {
		for _, name := range []string{"", "x", "if", "true", "1", "=", "-", "!", "+", "*", "/", "%", "==", "!=", "<", "<=", "&&", "||", ">", "(", "x y", strings.Repeat("n", 41)} {
			for _, n := range []int64{math.MinInt64, -1, 0, 1, 2, math.MaxInt64} {
				for size := range 4 {
					x := api.Expr{Kind: kind, Name: name, Num: n, L: some(size)}
					if !asks(t, mainOf(api.Stmt{Kind: api.SPrint, E: []api.Expr{x}})) {
						if s, e := syntax.PrintExpr(x); s != "" || e != api.ErrForm {
							t.Errorf("PrintExpr(%v) = %q, %d", x, s, e)
						}
						continue
					}
					right++
					if s, e := syntax.PrintExpr(x); s == "" || e != api.OK {
						t.Errorf("PrintExpr(%v) = %q, %d", x, s, e)
					}
				}
			}
		}
	}
	// INT: 4; true, false: 2; a name, an index: 1 each; unary: 2; signs between two: 11.
	if want := 4 + 2 + 2 + 2 + 11; right != want {
		t.Errorf("%d are right, want %d", right, want)
	}
}

func TestProceduresThatAreNotRight(t *testing.T) { // P3.2
	right := 0
	names := []string{"", "x", "proc", "-", "9", "x y", strings.Repeat("n", 40), strings.Repeat("n", 41)}
	for _, name := range names {
		for kind := -1; kind <= 3; kind++ {
			for _, param := range names {
				for typ := -1; typ <= 3; typ++ {
					l := []api.Param{{Name: "a", Type: api.Int}, {Name: param, Type: typ}}
					if asks(t, api.Prog{Procs: []api.Proc{{Name: "f"}, {Name: name, Type: kind, Params: l}}}) {
						right++
					}
				}
			}
		}
	}
	if want := 2 * 3 * 2 * 2; right != want {
		t.Errorf("%d are right, want %d", right, want)
	}
}

func TestWhatIsNotRightIsFoundAnywhere(t *testing.T) { // P3.2
	bad := whole(-1)
	x := variable("x")
	read := api.Stmt{Kind: api.SRead}
	for _, s := range []api.Stmt{
		read,
		{Kind: api.SPrint, E: []api.Expr{bad}},
		{Kind: api.SPrint, E: []api.Expr{unary("-", bad)}},
		{Kind: api.SPrint, E: []api.Expr{index("x", bad)}},
		{Kind: api.SPrint, E: []api.Expr{two(bad, "+", x)}},
		{Kind: api.SPrint, E: []api.Expr{two(x, "+", bad)}},
		{Kind: api.SPrint, E: []api.Expr{two(x, "+", two(unary("!", index("y", bad)), "-", x))}},
		{Kind: api.SPut, Name: "x", E: []api.Expr{x, bad}},
		{Kind: api.SPut, Name: "x", E: []api.Expr{bad, x}},
		{Kind: api.SCall, Proc: "f", E: []api.Expr{x, x, bad}},
		{Kind: api.SReturn, E: []api.Expr{bad}},
		{Kind: api.SIf, E: []api.Expr{bad}},
		{Kind: api.SIf, E: []api.Expr{x}, Body: []api.Stmt{read}},
		{Kind: api.SIf, E: []api.Expr{x}, Else: []api.Stmt{read}},
		{Kind: api.SWhile, E: []api.Expr{x}, Body: []api.Stmt{{Kind: api.SIf, E: []api.Expr{x}, Else: []api.Stmt{read}}}},
	} {
		for _, p := range []api.Prog{mainOf(s), mainOf(api.Stmt{Kind: api.SReturn}, s), {Procs: []api.Proc{{Name: "f"}, {Name: "g", Body: []api.Stmt{s}}}}} {
			if text, e := syntax.Print(p); text != "" || e != api.ErrForm {
				t.Errorf("Print(%v) = %q, %d", p, text, e)
			}
		}
	}
}

func TestListsWithoutElements(t *testing.T) { // rule 3: nil or empty, both are fine
	empty := api.Prog{Procs: []api.Proc{{Name: "f", Params: []api.Param{}, Body: []api.Stmt{
		{Kind: api.SIf, E: []api.Expr{{Kind: api.EVar, Name: "x", L: []api.Expr{}}}, Body: []api.Stmt{}, Else: []api.Stmt{}},
		{Kind: api.SReturn, E: []api.Expr{}, Body: []api.Stmt{}, Else: []api.Stmt{}},
	}}}}
	if s, e := syntax.Print(empty); s != "proc f ( ) { if ( x ) { } return ; }" || e != api.OK {
		t.Errorf("Print = %q, %d", s, e)
	}
	if s, e := syntax.Print(api.Prog{Procs: []api.Proc{}}); s != "" || e != api.OK {
		t.Errorf("Print = %q, %d", s, e)
	}
}

func TestPrintChangesNothing(t *testing.T) { // rule 3
	m := makes(22)
	for range 200 {
		p := m.prog(3)
		before := trimmed(p)
		syntax.Print(p)
		if !reflect.DeepEqual(trimmed(p), before) {
			t.Fatal("Print changed what it was given")
		}
	}
}
