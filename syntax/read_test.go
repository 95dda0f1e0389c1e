package syntax_test

import (
	"math"
	"math/rand/v2"
	"reflect"
	"strconv"
	"strings"
	"testing"

	"parallax/api"
	"parallax/lex"
	"parallax/syntax"
)

func whole(n int64) api.Expr     { return api.Expr{Kind: api.EInt, Num: n} }
func truth(n int64) api.Expr     { return api.Expr{Kind: api.EBool, Num: n} }
func variable(s string) api.Expr { return api.Expr{Kind: api.EVar, Name: s} }

func index(s string, x api.Expr) api.Expr {
	return api.Expr{Kind: api.EIndex, Name: s, L: []api.Expr{x}}
}

func unary(s string, x api.Expr) api.Expr {
	return api.Expr{Kind: api.EUn, Name: s, L: []api.Expr{x}}
}

func two(x api.Expr, s string, y api.Expr) api.Expr {
	return api.Expr{Kind: api.EBin, Name: s, L: []api.Expr{x, y}}
}

// trimmedExprs, trimmedStmts, trimmed: the same, each list without elements nil.
func trimmedExprs(l []api.Expr) []api.Expr {
	var t []api.Expr
	for _, x := range l {
		x.L = trimmedExprs(x.L)
		t = append(t, x)
	}
	return t
}

func trimmedStmts(l []api.Stmt) []api.Stmt {
	var t []api.Stmt
	for _, s := range l {
		s.E, s.Body, s.Else = trimmedExprs(s.E), trimmedStmts(s.Body), trimmedStmts(s.Else)
		t = append(t, s)
	}
	return t
}

func trimmed(p api.Prog) api.Prog {
	var t api.Prog
	for _, x := range p.Procs {
		x.Params = append([]api.Param(nil), x.Params...)
		x.Body = trimmedStmts(x.Body)
		t.Procs = append(t.Procs, x)
	}
	return t
}

func sameProg(a, b api.Prog) bool { return reflect.DeepEqual(trimmed(a), trimmed(b)) }

func sameExpr(a, b api.Expr) bool {
	return reflect.DeepEqual(trimmedExprs([]api.Expr{a}), trimmedExprs([]api.Expr{b}))
}

// reads asks that a source is read as that program.
func reads(t *testing.T, s string, want api.Prog) {
	t.Helper()
	p, at, e := syntax.Parse(s)
	if !sameProg(p, want) || at != 0 || e != api.OK {
		t.Errorf("Parse(%q) = %v, %d, %d; want %v", s, p, at, e, want)
	}
}

// refuses asks that a source is told as wrong at that place.
func refuses(t *testing.T, s string, at int, want api.Errno) {
	t.Helper()
	p, place, e := syntax.Parse(s)
	if len(p.Procs) != 0 || place != at || e != want {
		t.Errorf("Parse(%q) = %v, %d, %d; want %d, %d", s, p, place, e, at, want)
	}
	if l, ok := syntax.Places(s); len(l) != 0 || ok {
		t.Errorf("Places(%q) = %v, %v", s, l, ok)
	}
}

// main is a program of one procedure with that body.
func mainOf(body ...api.Stmt) api.Prog {
	return api.Prog{Procs: []api.Proc{{Name: "main", Body: body}}}
}

func TestReadStatements(t *testing.T) { // P3.1
	x := []api.Expr{variable("x")}
	one := []api.Expr{whole(1)}
	tell := []api.Stmt{{Kind: api.SPrint, E: one}}
	for s, want := range map[string]api.Stmt{
		"var v ;":                         {Kind: api.SVar, Name: "v"},
		"var bool v ;":                    {Kind: api.SVar, Name: "v", Num: -1},
		"var v [ 1 ] ;":                   {Kind: api.SVar, Name: "v", Num: 1},
		"var v [ 65 ] ;":                  {Kind: api.SVar, Name: "v", Num: 65},
		"var v [ 9223372036854775807 ] ;": {Kind: api.SVar, Name: "v", Num: math.MaxInt64},
		"v = x ;":                         {Kind: api.SSet, Name: "v", E: x},
		"v [ 1 ] = x ;":                   {Kind: api.SPut, Name: "v", E: []api.Expr{whole(1), variable("x")}},
		"if ( x ) { }":                    {Kind: api.SIf, E: x},
		"if ( x ) { print 1 ; }":          {Kind: api.SIf, E: x, Body: tell},
		"if ( x ) { } else { }":           {Kind: api.SIf, E: x},
		"if ( x ) { } else { print 1 ; }": {Kind: api.SIf, E: x, Else: tell},
		"while ( x ) { }":                 {Kind: api.SWhile, E: x},
		"while ( x ) { print 1 ; }":       {Kind: api.SWhile, E: x, Body: tell},
		"f ( ) ;":                         {Kind: api.SCall, Proc: "f"},
		"f ( x ) ;":                       {Kind: api.SCall, Proc: "f", E: x},
		"f ( x , 1 ) ;":                   {Kind: api.SCall, Proc: "f", E: []api.Expr{variable("x"), whole(1)}},
		"v = f ( ) ;":                     {Kind: api.SCall, Name: "v", Proc: "f"},
		"v = f ( x ) ;":                   {Kind: api.SCall, Name: "v", Proc: "f", E: x},
		"v = f ( 1 , x ) ;":               {Kind: api.SCall, Name: "v", Proc: "f", E: []api.Expr{whole(1), variable("x")}},
		"return ;":                        {Kind: api.SReturn},
		"return x ;":                      {Kind: api.SReturn, E: x},
		"print 1 ;":                       {Kind: api.SPrint, E: one},
		"read v ;":                        {Kind: api.SRead, Name: "v"},
		"assert x ;":                      {Kind: api.SAssert, E: x},
	} {
		reads(t, "proc main ( ) { "+s+" }", mainOf(want))
		reads(t, "proc main ( ) { "+s+s+" }", mainOf(want, want))
		reads(t, "proc main ( ) { while ( x ) { "+s+" } }", mainOf(api.Stmt{Kind: api.SWhile, E: x, Body: []api.Stmt{want}}))
	}
}

func TestReadProcedures(t *testing.T) { // P3.1
	reads(t, "", api.Prog{})
	reads(t, " # nothing", api.Prog{})
	for s, want := range map[string]api.Proc{
		"proc f ( ) { }":                        {Name: "f"},
		"proc f ( ) int { }":                    {Name: "f", Type: api.Int},
		"proc f ( ) bool { }":                   {Name: "f", Type: api.Bool},
		"proc f ( int a ) { }":                  {Name: "f", Params: []api.Param{{Name: "a", Type: api.Int}}},
		"proc f ( bool a , int a ) bool { }":    {Name: "f", Type: api.Bool, Params: []api.Param{{Name: "a", Type: api.Bool}, {Name: "a", Type: api.Int}}},
		"proc f ( ) { return ; }":               {Name: "f", Body: []api.Stmt{{Kind: api.SReturn}}},
		"proc f(int a)int{return;}#":            {Name: "f", Type: api.Int, Params: []api.Param{{Name: "a", Type: api.Int}}, Body: []api.Stmt{{Kind: api.SReturn}}},
		"#\nproc\nf\n(\n)\n{#\nread\na\n;\n}\n": {Name: "f", Body: []api.Stmt{{Kind: api.SRead, Name: "a"}}},
	} {
		reads(t, s, api.Prog{Procs: []api.Proc{want}})
		reads(t, s+"\nproc g(){}", api.Prog{Procs: []api.Proc{want, {Name: "g"}}})
	}
}

func TestReadManyProcedures(t *testing.T) { // P3.1: how many there may be is not asked here
	n := 2 * api.MaxProcs
	p, _, e := syntax.Parse(strings.Repeat("proc f(){}", n))
	if len(p.Procs) != n || e != api.OK {
		t.Errorf("%d procedures, %d", len(p.Procs), e)
	}
}

func TestExpr(t *testing.T) { // P3.3
	x, y, z := variable("x"), variable("y"), variable("z")
	for s, want := range map[string]api.Expr{
		"0":                   whole(0),
		"9223372036854775807": whole(math.MaxInt64),
		"true":                truth(1),
		"false":               truth(0),
		"x":                   x,
		"x [ y ]":             index("x", y),
		"x [ y [ z ] + 1 ]":   index("x", two(index("y", z), "+", whole(1))),
		"- x":                 unary("-", x),
		"! x":                 unary("!", x),
		"- - ! - x":           unary("-", unary("-", unary("!", unary("-", x)))),
		"- x [ y ]":           unary("-", index("x", y)),
		"- x * y":             two(unary("-", x), "*", y),
		"! x == y":            two(unary("!", x), "==", y),
		"x - - y":             two(x, "-", unary("-", y)),
		"( x )":               x,
		"( ( ( x ) ) )":       x,
		"- ( x + y )":         unary("-", two(x, "+", y)),
		"x || y || z":         two(two(x, "||", y), "||", z),
		"x && y && z":         two(two(x, "&&", y), "&&", z),
		"x - y + z":           two(two(x, "-", y), "+", z),
		"x / y % z":           two(two(x, "/", y), "%", z),
		"x - ( y + z )":       two(x, "-", two(y, "+", z)),
		"x || y && z":         two(x, "||", two(y, "&&", z)),
		"x && y || z":         two(two(x, "&&", y), "||", z),
		"x && y == z":         two(x, "&&", two(y, "==", z)),
		"x == y && z":         two(two(x, "==", y), "&&", z),
		"x < y + z":           two(x, "<", two(y, "+", z)),
		"x + y <= z":          two(two(x, "+", y), "<=", z),
		"x + y * z":           two(x, "+", two(y, "*", z)),
		"x * y + z":           two(two(x, "*", y), "+", z),
		"( x < y ) < z":       two(two(x, "<", y), "<", z),
		"x == y || x != y":    two(two(x, "==", y), "||", two(x, "!=", y)),
		"x%y<y-z&&x||y!=z":    two(two(two(two(x, "%", y), "<", two(y, "-", z)), "&&", x), "||", two(y, "!=", z)),
	} {
		got, at, e := syntax.Expr(s)
		if !sameExpr(got, want) || at != 0 || e != api.OK {
			t.Errorf("Expr(%q) = %v, %d, %d; want %v", s, got, at, e, want)
		}
		reads(t, "proc main(){print "+s+";}", mainOf(api.Stmt{Kind: api.SPrint, E: []api.Expr{want}}))
	}
}

func TestExprErrors(t *testing.T) { // P3.3
	for _, c := range []struct {
		s  string
		at int
		e  api.Errno
	}{
		{"", 0, api.ErrSyntax},
		{"  # nothing", 11, api.ErrSyntax},
		{"1 +", 3, api.ErrSyntax},
		{"1 + ;", 4, api.ErrSyntax},
		{"1 ;", 2, api.ErrSyntax},
		{"1 2", 2, api.ErrSyntax},
		{"x < y < z", 6, api.ErrSyntax},
		{"x == y <= z", 7, api.ErrSyntax},
		{"f ( 1 )", 2, api.ErrSyntax},
		{"x = 1", 2, api.ErrSyntax},
		{"( 1", 3, api.ErrSyntax},
		{"( )", 2, api.ErrSyntax},
		{"x [ ]", 4, api.ErrSyntax},
		{"x [ 1", 5, api.ErrSyntax},
		{"x [ 1 ] [ 2 ]", 8, api.ErrSyntax},
		{"1 [ 2 ]", 2, api.ErrSyntax},
		{"+ 1", 0, api.ErrSyntax},
		{"1 ! 2", 2, api.ErrSyntax},
		{"print 1", 0, api.ErrSyntax},
		{"1 + @", 4, api.ErrToken},
		{"+ @", 2, api.ErrToken},
		{strings.Repeat(" ", api.MaxSource) + "1", 0, api.ErrLong},
		{strings.Repeat("1 ", api.MaxTokens), 2 * api.MaxTokens, api.ErrLong},
	} {
		x, at, e := syntax.Expr(c.s)
		if !sameExpr(x, api.Expr{}) || at != c.at || e != c.e {
			t.Errorf("Expr(%.40q) = %v, %d, %d; want %d, %d", c.s, x, at, e, c.at, c.e)
		}
	}
}

func TestParseErrors(t *testing.T) { // P3.1: the place is that of the bar
	for _, s := range []string{
		"proc f ( int a , |) { }",
		"|x", "|;", "proc |", "proc |proc", "proc |1", "proc f |{ }", "proc f ( |a ) { }", "proc f ( |, int a ) { }",
		"proc f ( int |) { }", "proc f ( int |int ) { }", "proc f ( int a |int b ) { }", "proc f ( int a |", "proc f ( int a |[ 1 ] ) { }",
		"proc f ( ) |f { }", "proc f ( ) int |int { }", "proc f ( ) |;", "proc f ( ) { |", "proc f ( ) { } |}", "proc f ( ) { } |print 1 ;",
		"proc f ( ) { |{ } }", "proc f ( ) { |; }", "proc f ( ) { |1 ; }", "proc f ( ) { |else { } }", "proc f ( ) { |int x ; }", "proc f ( ) { |proc g ( ) { } }",
		"proc f ( ) { var |int x ; }", "proc f ( ) { var |1 ; }", "proc f ( ) { var x |= 1 ; }", "proc f ( ) { var bool |bool ; }", "proc f ( ) { var bool x |[ 2 ] ; }",
		"proc f ( ) { var x [ |] ; }", "proc f ( ) { var x [ |0 ] ; }", "proc f ( ) { var x [ |n ] ; }", "proc f ( ) { var x [ |- 1 ] ; }", "proc f ( ) { var x [ 1 |+ 1 ] ; }", "proc f ( ) { var x [ 1 ] |[ 1 ] ; }", "proc f ( ) { var x |}",
		"proc f ( ) { x |; }", "proc f ( ) { x |+ 1 ; }", "proc f ( ) { x |== 1 ; }", "proc f ( ) { x = |; }", "proc f ( ) { x = 1 |}", "proc f ( ) { x = 1 |= 2 ; }", "proc f ( ) { x = y |= 2 ; }",
		"proc f ( ) { x [ |] = 1 ; }", "proc f ( ) { x [ 1 |; }", "proc f ( ) { x [ 1 ] |; }", "proc f ( ) { x [ 1 ] = |; }", "proc f ( ) { x [ 1 ] |( ) ; }", "proc f ( ) { x [ 1 ] = f |( ) ; }",
		"proc f ( ) { if |x { } }", "proc f ( ) { if ( |) { } }", "proc f ( ) { if ( x |{ } }", "proc f ( ) { if ( x ) |print 1 ; }", "proc f ( ) { if ( x ) { } else |if ( x ) { } }", "proc f ( ) { if ( x ) { } else { } |else { } }", "proc f ( ) { if ( x ) { } |; }",
		"proc f ( ) { while |x { } }", "proc f ( ) { while ( |) { } }", "proc f ( ) { while ( x |, y ) { } }", "proc f ( ) { while ( x ) |; }", "proc f ( ) { while ( x ) { } |else { } }",
		"proc f ( ) { g ( |, x ) ; }", "proc f ( ) { g ( x , |) ; }", "proc f ( ) { g ( x |y ) ; }", "proc f ( ) { g ( x ) |}", "proc f ( ) { g ( ) |+ 1 ; }", "proc f ( ) { g ( h |( ) ) ; }",
		"proc f ( ) { x = g ( |, x ) ; }", "proc f ( ) { x = g ( x , |) ; }", "proc f ( ) { x = g ( ) |+ 1 ; }", "proc f ( ) { x = 1 + g |( ) ; }", "proc f ( ) { x = - g |( ) ; }", "proc f ( ) { x = ( g |( ) ) ; }",
		"proc f ( ) { return |} ", "proc f ( ) { return 1 |} ", "proc f ( ) { return g |( ) ; }",
		"proc f ( ) { print |; }", "proc f ( ) { print 1 |, 2 ; }", "proc f ( ) { print |} ", "proc f ( ) { print x < y |< z ; }",
		"proc f ( ) { read |1 ; }", "proc f ( ) { read x |[ 1 ] ; }", "proc f ( ) { read x |} ", "proc f ( ) { read |read ; }",
		"proc f ( ) { assert |; }", "proc f ( ) { assert x |} ",
		"proc |if ( ) { }", "proc f ( ) { print ( 1 |; }", "proc f ( ) { print ( 1 |] ; }", "proc f ( ) { print x [ 1 |) ; }",
	} {
		ahead, behind, _ := strings.Cut(s, "|")
		refuses(t, ahead+behind, len(ahead), api.ErrSyntax)
	}
}

func TestParseTakesScansErrorFirst(t *testing.T) { // P3.1
	refuses(t, "; @", 2, api.ErrToken)
	refuses(t, "proc f ( ) { 007 }", 13, api.ErrToken)
	refuses(t, strings.Repeat(";", api.MaxSource+1), 0, api.ErrLong)
	refuses(t, strings.Repeat(";", api.MaxTokens), api.MaxTokens, api.ErrLong)
}

func TestParseAtTheLimits(t *testing.T) { // P3.1
	body := strings.Repeat("x=1;", (api.MaxTokens-7)/4)
	s := "proc f(){" + body + "}"
	if p, at, e := syntax.Parse(s); e != api.OK || len(p.Procs[0].Body) != (api.MaxTokens-7)/4 {
		t.Errorf("%d, %d", at, e)
	}
	s = "proc f(){print 1" + strings.Repeat("+1", (api.MaxTokens-10)/2) + ";}"
	if p, at, e := syntax.Parse(s); e != api.OK || len(p.Procs[0].Body) != 1 {
		t.Errorf("%d, %d", at, e)
	}
	s = "proc f(){" + strings.Repeat(" ", api.MaxSource-10) + "}"
	if _, at, e := syntax.Parse(s); e != api.OK {
		t.Errorf("%d, %d", at, e)
	}
}

// scanned are a source's tokens.
func scanned(s string) []api.Token {
	l, _, e := lex.Scan(s)
	if e != api.OK {
		panic("no tokens: " + s)
	}
	return l
}

func TestReadTakesTokensPlaces(t *testing.T) { // P3.1: At is what it is, wherever that token stands
	l := scanned("proc f ( ) { print ; }")
	for i := range l {
		l[i].At = -i * 7
	}
	if p, at, e := syntax.Read(l); len(p.Procs) != 0 || at != -42 || e != api.ErrSyntax {
		t.Errorf("Read = %v, %d, %d", p, at, e)
	}
	l = scanned("proc f ( ) {")
	l[len(l)-1].At = 99
	if _, at, e := syntax.Read(l); at != 99 || e != api.ErrSyntax {
		t.Errorf("Read: %d, %d", at, e)
	}
}

func TestReadTokensThatAreNotRight(t *testing.T) { // P3.1, P3.8
	good := scanned("proc f ( ) { print 1 ; }")
	for i, spoil := range []func(l []api.Token) []api.Token{
		func(l []api.Token) []api.Token { return nil },
		func(l []api.Token) []api.Token { return l[:len(l)-1] },
		func(l []api.Token) []api.Token { return append(l, api.Token{}) },
		func(l []api.Token) []api.Token { l[0].Text = "prog"; return l },
		func(l []api.Token) []api.Token { l[1].Text = "int"; return l },
		func(l []api.Token) []api.Token { l[6].Num = -1; return l },
		func(l []api.Token) []api.Token { l[6].Text = "1"; return l },
		func(l []api.Token) []api.Token { l[2].Kind = api.TKey; return l },
		func(l []api.Token) []api.Token { l[0].Kind = 5; return l },
		func(l []api.Token) []api.Token { l[8].Num = 1; return l },
		func(l []api.Token) []api.Token { l[9].Num = 1; return l },
	} {
		l := spoil(append([]api.Token(nil), good...))
		if p, at, e := syntax.Read(l); len(p.Procs) != 0 || at != 0 || e != api.ErrForm {
			t.Errorf("%d: Read = %v, %d, %d", i, p, at, e)
		}
		if x, next, at, e := syntax.ReadExpr(l, 6); !sameExpr(x, api.Expr{}) || next != 0 || at != 0 || e != api.ErrForm {
			t.Errorf("%d: ReadExpr = %v, %d, %d, %d", i, x, next, at, e)
		}
	}
}

func TestReadManyTokens(t *testing.T) { // P3.1: tokens that are handed over may be more than a source has
	n := 3 * api.MaxTokens
	l := scanned("proc f ( ) {")
	l = l[:len(l)-1]
	for range n {
		stmt := scanned("print 1 ;")
		l = append(l, stmt[:3]...)
	}
	l = append(l, scanned("}")...)
	p, at, e := syntax.Read(l)
	if e != api.OK || at != 0 || len(p.Procs[0].Body) != n {
		t.Fatalf("Read: %d, %d", at, e)
	}
	s, e := syntax.Print(p)
	if want := "proc f ( ) {" + strings.Repeat(" print 1 ;", n) + " }"; e != api.OK || s != want {
		t.Errorf("Print: %d", e)
	}
}

func TestReadExpr(t *testing.T) { // P3.8
	for _, c := range []struct {
		s    string
		from int
		want string
		next int
	}{
		{"x", 0, "x", 1},
		{"x ; y", 0, "x", 1},
		{"x ; y", 2, "y", 3},
		{"break when x < 3 ;", 2, "x < 3", 5},
		{"x < y < z", 0, "x < y", 3},
		{"x < y < z", 2, "y < z", 5},
		{"x < y && y < z != z", 0, "( x < y ) && ( y < z )", 7},
		{"x = 1", 0, "x", 1},
		{"f ( x )", 0, "f", 1},
		{"f ( x )", 1, "x", 4},
		{"f ( x ) + 1 )", 1, "x + 1", 6},
		{"x y", 0, "x", 1},
		{"x ! y", 0, "x", 1},
		{"x [ 1 ] [ 2 ]", 0, "x [ 1 ]", 4},
		{"- ( 1 ) 2", 0, "- 1", 4},
		{"print 1 + 2", 1, "1 + 2", 4},
		{"print 1 + 2", 3, "2", 4},
		{"true false", 0, "true", 1},
	} {
		x, next, at, e := syntax.ReadExpr(scanned(c.s), c.from)
		got, f := syntax.PrintExpr(x)
		if got != c.want || next != c.next || at != 0 || e != api.OK || f != api.OK {
			t.Errorf("ReadExpr(%q, %d) = %q, %d, %d, %d; want %q, %d", c.s, c.from, got, next, at, e, c.want, c.next)
		}
	}
}

func TestReadExprErrors(t *testing.T) { // P3.8
	for _, c := range []struct {
		s    string
		from int
		at   int
		e    api.Errno
	}{
		{"x", -1, 0, api.ErrForm},
		{"x", 2, 0, api.ErrForm},
		{"x", math.MaxInt, 0, api.ErrForm},
		{"x", math.MinInt, 0, api.ErrForm},
		{"x", 1, 1, api.ErrSyntax},
		{"", 0, 0, api.ErrSyntax},
		{"x ; y", 1, 2, api.ErrSyntax},
		{"x + ; y", 0, 4, api.ErrSyntax},
		{"x [ ; ]", 0, 4, api.ErrSyntax},
		{"x [ 1 ;", 0, 6, api.ErrSyntax},
		{"( x ;", 0, 4, api.ErrSyntax},
		{"- ;", 0, 2, api.ErrSyntax},
		{"x < y &&", 0, 8, api.ErrSyntax},
		{"print x", 0, 0, api.ErrSyntax},
		{"; " + strings.Repeat("-", 60) + "x", 1, 62, api.ErrDeep},
	} {
		x, next, at, e := syntax.ReadExpr(scanned(c.s), c.from)
		if !sameExpr(x, api.Expr{}) || next != 0 || at != c.at || e != c.e {
			t.Errorf("ReadExpr(%q, %d) = %v, %d, %d, %d; want %d, %d", c.s, c.from, x, next, at, e, c.at, c.e)
		}
	}
}

func TestPlaces(t *testing.T) { // P3.9; a @ stands ahead of each mark, a $ behind the last one of a procedure
	for _, s := range []string{
		"@proc main ( ) { @print 1 ; @}$",
		"",
		" # none\n",
		"@proc f(){@}$",
		" # one\n@proc f(int a)int{@a=a+1;@return a;@}$@proc g(){@f(1);@var x;@x=f(2);@}$",
		"@proc f(){@if(true){@x=1;@while(x<2){@x[1]=2;}@print 1;}else{@read x;@if(x){}else{@assert x;}}@}$",
		"@proc f(){@while(a){@while(b){@while(c){}}}@}$ @proc f(){@}$ # end",
	} {
		var want [][]int
		var marks []int
		at := 0
		for _, c := range s {
			switch c {
			case '@':
				marks = append(marks, at)
			case '$':
				want, marks = append(want, marks), nil
			default:
				at++
			}
		}
		source := strings.NewReplacer("@", "", "$", "").Replace(s)
		got, ok := syntax.Places(source)
		if !ok || len(got) != len(want) || len(want) > 0 && !reflect.DeepEqual(got, want) {
			t.Errorf("Places(%q) = %v, %v; want %v", source, got, ok, want)
		}
	}
}

// blanks are between words, and of all kinds.
func blanks(r *rand.Rand) func() string {
	return func() string { return [4]string{" ", "\n", "  ", " # x ; } \n"}[r.IntN(4)] }
}

func TestProgramsAreReadAsTheyWereSpelt(t *testing.T) { // P3.1, P3.6, P3.9
	m := makes(1)
	for range 3000 {
		p := m.prog(3)
		l := lavish(m.Rand).prog(p)
		s, at := spaced(l.words, blanks(m.Rand))
		got, _, e := syntax.Parse(s)
		if len(s) > api.MaxSource || len(l.words) >= api.MaxTokens {
			continue
		}
		if e != api.OK || !sameProg(got, p) {
			t.Fatalf("Parse(%q) = %v, %d; want %v", s, got, e, p)
		}
		places, ok := syntax.Places(s)
		if !ok || !reflect.DeepEqual(append([][]int(nil), places...), placed(l.marks, at)) {
			t.Fatalf("Places(%q) = %v, %v", s, places, ok)
		}
	}
}

// placed are the places of words.
func placed(marks [][]int, at []int) [][]int {
	var l [][]int
	for _, words := range marks {
		var places []int
		for _, w := range words {
			places = append(places, at[w])
		}
		l = append(l, places)
	}
	return l
}

// spoilt is a row with some tokens changed, put in, left out, or doubled.
func spoilt(r *rand.Rand, l []api.Token) []api.Token {
	some := scanned("proc var if else while return print read assert int bool true false ( ) { } [ ] , ; = == != < <= && || ! + - * / % x y 0 1 2 x ( ) ; , = [ ]")
	l = append([]api.Token(nil), l[:len(l)-1]...)
	for range r.IntN(3) {
		token := some[r.IntN(len(some)-1)]
		i := r.IntN(len(l) + 1)
		switch r.IntN(4) {
		case 0:
			l = append(l[:i], append([]api.Token{token}, l[i:]...)...)
		case 1:
			l = l[:i]
		case 2:
			if i < len(l) {
				l[i] = token
			}
		case 3:
			if i < len(l) {
				l = append(l[:i], l[i+1:]...)
			}
		}
	}
	l = append(l, api.Token{Kind: api.TEnd})
	for i := range l {
		l[i].At = i
	}
	return l
}

func TestErrorsAreWhereTheGrammarSays(t *testing.T) { // P3.1, P3.3, P3.8
	m := makes(2)
	wrong := 0
	for range 6000 {
		s, _ := lavish(m.Rand).prog(m.prog(2)).text()
		if len(s) > 600 {
			continue
		}
		l := spoilt(m.Rand, scanned(s))
		p, at, e := syntax.Read(l)
		want := firstThatCanNotStand(l, "file")
		if want < 0 {
			if at != 0 || e != api.OK {
				t.Fatalf("Read(%v) = %d, %d", l, at, e)
			}
			continue
		}
		wrong++
		if len(p.Procs) != 0 || at != want || e != api.ErrSyntax {
			t.Fatalf("Read(%v) = %v, %d, %d; want %d", l, p, at, e, want)
		}
	}
	if wrong < 1000 {
		t.Errorf("only %d were wrong", wrong)
	}
}

func TestExpressionsErrorsAreWhereTheGrammarSays(t *testing.T) { // P3.3, P3.8
	m := makes(3)
	for range 6000 {
		k := lavish(m.Rand)
		k.expr(m.expr(4), 1)
		s, _ := k.text()
		l := spoilt(m.Rand, scanned(s))
		text, e := lex.Print(l)
		if e != api.OK {
			t.Fatal(e)
		}
		l = scanned(text)
		want := firstThatCanNotStand(l, "alone")
		_, at, e := syntax.Expr(text)
		if want < 0 && (at != 0 || e != api.OK) || want >= 0 && (at != l[want].At || e != api.ErrSyntax) {
			t.Fatalf("Expr(%q) = %d, %d; want %d", text, at, e, want)
		}
		x, next, at, e := syntax.ReadExpr(l, 0)
		if e == api.OK && (next != want && want >= 0 || next != len(l)-1 && want < 0) {
			t.Fatalf("ReadExpr(%q) = %v, %d; want %d", text, x, next, want)
		}
		if e != api.OK && (want < 0 || at != l[want].At || e != api.ErrSyntax) {
			t.Fatalf("ReadExpr(%q) = %d, %d; want %d", text, at, e, want)
		}
		cut := append(append([]api.Token(nil), l[:max(want, 0)]...), api.Token{})
		if whole := want >= 0 && firstThatCanNotStand(cut, "alone") < 0; want >= 0 && whole != (e == api.OK) {
			t.Fatalf("ReadExpr(%q) = %d, %d", text, at, e)
		}
	}
}

func TestTokensBehindAnErrorPlayNoPart(t *testing.T) { // P3.7
	m := makes(4)
	for range 3000 {
		s, _ := lavish(m.Rand).prog(m.prog(2)).text()
		if m.IntN(4) == 0 {
			s, _ = sparing().prog(m.deep(m.IntN(70), m.IntN(70))).text()
		}
		l := spoilt(m.Rand, scanned(s))
		_, at, e := syntax.Read(l)
		if e == api.OK {
			continue
		}
		tail := spoilt(m.Rand, scanned(") ; } ( x [ - 1 + 2 , y"))
		// What stands behind a name tells whether it is a part at all.
		if tail[0].Text == "(" {
			tail = tail[1:]
		}
		if l[at].Kind == api.TEnd {
			continue
		}
		other := append(append([]api.Token(nil), l[:at+1]...), tail...)
		if _, at2, e2 := syntax.Read(other); at2 != at || e2 != e {
			t.Fatalf("%v: %d, %d; %v: %d, %d", l, at, e, other, at2, e2)
		}
	}
}

// numbered numbers all that can be numbered in statements, by the lists that hold it.
func numbered(l []api.Stmt, n *int64) {
	for i := range l {
		*n++
		l[i].Num = *n
		numberedExprs(l[i].E, n)
		numbered(l[i].Body, n)
		numbered(l[i].Else, n)
	}
}

func numberedExprs(l []api.Expr, n *int64) {
	for i := range l {
		*n++
		l[i].Num = *n
		numberedExprs(l[i].L, n)
	}
}

// gathered are the numbers, in the order in which they were given.
func gathered(l []api.Stmt, got []int64) []int64 {
	for _, s := range l {
		got = gatheredExprs(s.E, append(got, s.Num))
		got = gathered(s.Else, gathered(s.Body, got))
	}
	return got
}

func gatheredExprs(l []api.Expr, got []int64) []int64 {
	for _, x := range l {
		got = gatheredExprs(x.L, append(got, x.Num))
	}
	return got
}

func TestProgramsAreNewMemory(t *testing.T) { // rule 3
	m := makes(5)
	for range 300 {
		s, _ := sparing().prog(m.prog(3)).text()
		l := scanned(s)
		before := append([]api.Token(nil), l...)
		p, _, e := syntax.Read(l)
		if e != api.OK || !reflect.DeepEqual(l, before) {
			t.Fatalf("Read(%q): %d", s, e)
		}
		want := trimmed(p)
		q, _, _ := syntax.Read(l)
		var n int64
		for i := range p.Procs {
			numbered(p.Procs[i].Body, &n)
		}
		var got []int64
		for _, x := range p.Procs {
			got = gathered(x.Body, got)
		}
		for i, k := range got {
			if k != int64(i+1) {
				t.Fatalf("two lists of %q share memory", s)
			}
		}
		if !sameProg(q, want) {
			t.Fatalf("two answers of %q share memory", s)
		}
	}
	l, _ := syntax.Places("proc f(){} proc g(){}")
	l[0] = append(l[0], 7)
	l[0][0] = 8
	if !reflect.DeepEqual(l[1], []int{11, 20}) {
		t.Error("places share memory", l)
	}
}

func TestBrackets(t *testing.T) { // P3.6
	m := makes(6)
	for range 2000 {
		x := m.expr(5)
		few, many := sparing(), lavish(m.Rand)
		few.expr(x, 1)
		many.expr(x, 1)
		a, _ := few.text()
		b, _ := many.text()
		for _, s := range []string{a, b, "( " + a + " )", "( ( " + b + " ) )"} {
			if got, _, e := syntax.Expr(s); e != api.OK || !sameExpr(got, x) {
				t.Fatalf("Expr(%q) = %v, %d; want %v", s, got, e, x)
			}
		}
	}
}

func FuzzParse(f *testing.F) { // P1, P3.1, P3.4, P3.5, P3.9
	m := makes(7)
	for range 20 {
		s, _ := lavish(m.Rand).prog(m.prog(2)).text()
		f.Add(s)
	}
	f.Add("proc f(){print " + strings.Repeat("-", 59) + "1;}")
	f.Fuzz(func(t *testing.T, s string) {
		p, at, e := syntax.Parse(s)
		_, ok := syntax.Places(s)
		if ok != (e == api.OK) || at < 0 || at > len(s) {
			t.Fatalf("%v, %d, %d", ok, at, e)
		}
		if x, _, e := syntax.Expr(s); e == api.OK {
			if text, e := syntax.PrintExpr(x); e == api.ErrForm {
				t.Fatalf("%q, %d", text, e)
			}
		}
		if e != api.OK {
			return
		}
		text, e := syntax.Print(p)
		if e == api.ErrDeep {
			return
		}
		again, at, f := syntax.Parse(text)
		if e != api.OK || f != api.ErrLong && (f != api.OK || !sameProg(again, p)) {
			t.Fatalf("%q: %d; %q: %d, %d", s, e, text, at, f)
		}
	})
}

func TestAnyArguments(t *testing.T) { // P1
	m := makes(8)
	some := []string{"proc", "if", "x", "", "(", "}", "1", "-", "==", strings.Repeat("y", 41), "\xff"}
	for range 3000 {
		var l []api.Token
		for range m.IntN(9) {
			l = append(l, api.Token{Kind: m.IntN(7) - 1, Text: pick(m, some...), Num: int64(m.IntN(3) - 1), At: m.IntN(9)})
		}
		syntax.Read(l)
		syntax.ReadExpr(l, m.IntN(12)-2)
		var words []string
		for range m.IntN(20) {
			words = append(words, pick(m, some...)+strconv.Itoa(m.IntN(3)))
		}
		s := strings.Join(words, " ")
		syntax.Parse(s)
		syntax.Expr(s)
		syntax.Places(s)
	}
}
