package fold_test

import (
	"reflect"
	"testing"

	"parallax/api"
	"parallax/fold"
	"parallax/syntax"
)

// folds asks what an expression is folded to.
func folds(t *testing.T, s, want string) {
	t.Helper()
	got, e := syntax.PrintExpr(fold.Expr(read(t, s)))
	canonical, _ := syntax.PrintExpr(read(t, want))
	if got != canonical || e != api.OK {
		t.Errorf("Expr(%q) = %q, %d; want %q", s, got, e, canonical)
	}
}

func TestExpr(t *testing.T) { // P5.3: each rule, and what stays
	for s, want := range map[string]string{
		"1+2*3": "7", "1-2": "-1", "x*1+0": "x", "1/0": "1/0", "false&&a[9]==1": "false",

		"-5": "-5", "- -5": "5", "-0": "0", "-true": "-1", "!true": "false", "!0": "true", "!7": "false", "!-7": "false",
		"3-5": "-2", "2*-3": "-6", "7/2": "3", "-7/2": "-3", "-7%2": "-1", "5%-3": "2",
		"1<2": "true", "2<=1": "false", "2==2": "true", "2!=2": "false", "true==true": "true", "true!=true": "false",
		"true&&true": "true", "true&&false": "false", "false||false": "false", "false||true": "true", "3&&4": "true", "0||0": "false", "0||5": "true", "0&&x": "0&&x",
		"9223372036854775807+1": "-9223372036854775807-1", "-9223372036854775807-1": "-9223372036854775807-1",
		"-(-9223372036854775807-1)":    "-9223372036854775807-1",
		"(-9223372036854775807-1)*1":   "-9223372036854775807-1",
		"(-9223372036854775807-1)+x":   "(-9223372036854775807-1)+x",
		"(-9223372036854775807-1)/-1":  "-9223372036854775807-1",
		"true+true":                    "2",
		"(1<2)+1":                      "2",
		"5%0":                          "5%0",
		"0/0":                          "0/0",
		"1/0+1":                        "1/0+1",
		"(1/0)/1":                      "1/0",
		"1*(1/0)":                      "1/0",
		"0*x":                          "0*x",
		"x*0":                          "x*0",
		"x-x":                          "x-x",
		"x==x":                         "x==x",
		"0-x":                          "0-x",
		"0/x":                          "0/x",
		"1/x":                          "1/x",
		"x%1":                          "x%1",
		"x+1+2":                        "x+1+2",
		"- -x":                         "x",
		"- - -x":                       "-x",
		"- - - -x":                     "x",
		"-(x-y)":                       "-(x-y)",
		"-!x":                          "-!x",
		"!-x":                          "!-x",
		"!!x":                          "!!x",
		"!!!x":                         "!x",
		"!!!!x":                        "!!x",
		"!!(x<y)":                      "x<y",
		"!!(x&&y)":                     "x&&y",
		"!!(x+y)":                      "!!(x+y)",
		"!!a[0]":                       "!!a[0]",
		"false&&x":                     "false",
		"false&&1/0==1":                "false",
		"(1<1)&&1/0==1":                "false",
		"true||x":                      "true",
		"true||a[9]==1":                "true",
		"x&&false":                     "x&&false",
		"x||true":                      "x||true",
		"true&&x":                      "true&&x",
		"false||x":                     "false||x",
		"true&&x==y":                   "x==y",
		"true&&!x":                     "!x",
		"true&&(x||y)":                 "x||y",
		"false||x!=y":                  "x!=y",
		"false||(x<=y)":                "x<=y",
		"false||(x+y)":                 "false||(x+y)",
		"x&&true":                      "x&&true",
		"x||false":                     "x||false",
		"x<y&&true":                    "x<y",
		"x<y||false":                   "x<y",
		"-x&&true":                     "-x&&true",
		"a[1]||false":                  "a[1]||false",
		"!x&&true":                     "!x",
		"1&&x==y":                      "1&&x==y",
		"0||x==y":                      "0||x==y",
		"x==y&&1":                      "x==y&&1",
		"x==y||0":                      "x==y||0",
		"1||x":                         "1||x",
		"x+0":                          "x",
		"x-0":                          "x",
		"x*1":                          "x",
		"x/1":                          "x",
		"0+x":                          "x",
		"1*x":                          "x",
		"x+false":                      "x+false",
		"x-false":                      "x-false",
		"x*true":                       "x*true",
		"x/true":                       "x/true",
		"false+x":                      "false+x",
		"true*x":                       "true*x",
		"x+1":                          "x+1",
		"x-1":                          "x-1",
		"x*2":                          "x*2",
		"x/2":                          "x/2",
		"1+x":                          "1+x",
		"2*x":                          "2*x",
		"x+-0":                         "x",
		"x*(3-2)":                      "x",
		"(1-1)+a[i]":                   "a[i]",
		"a[9]*1":                       "a[9]",
		"a[1+1]":                       "a[2]",
		"a[x*1]":                       "a[x]",
		"a[a[0+x]+0]":                  "a[a[x]]",
		"-(x+0)":                       "-x",
		"-(0+ -x)":                     "x",
		"!(true&&!(x==y))":             "x==y",
		"x+(2-2)*y":                    "x+0*y",
		"(x+0)*(y/1)==(0+z)":           "x*y==z",
		"(true||x)&&(false||(x<y+0))":  "x<y",
		"x<y&&(true&&(1<2&&true))":     "x<y",
		"x==y||(false&&(false||true))": "x==y",
	} {
		folds(t, s, want)
	}
}

func TestExprOddForms(t *testing.T) { // P5.3: what no text is of
	x, odd := named("x"), api.Expr{Kind: api.EInt, Num: 5, L: list(two(whole(1), "+", whole(1)))}
	for _, c := range []struct{ x, want api.Expr }{
		{whole(-5), whole(-5)},
		{whole(least), whole(least)},
		{truth(5), truth(5)},
		{sign("-", whole(-5)), whole(5)},
		{sign("-", whole(least)), fold.Lit(least)},
		{two(whole(-5), "+", whole(3)), sign("-", whole(2))},
		{two(whole(-5), "+", x), two(whole(-5), "+", x)},
		{two(x, "*", whole(-1)), two(x, "*", whole(-1))},
		{two(two(whole(-5), "+", whole(5)), "+", x), x},
		{sign("!", truth(5)), truth(1)},
		{two(truth(5), "&&", x), two(truth(5), "&&", x)},
		{two(truth(5), "||", truth(0)), truth(0)},
		{two(x, "+", odd), two(x, "+", odd)},
		{two(odd, "+", two(whole(1), "+", whole(1))), two(odd, "+", whole(2))},
		{index("a", odd), index("a", odd)},
		{two(x, "*", api.Expr{Kind: api.EInt, Num: 1, L: list(x)}), two(x, "*", api.Expr{Kind: api.EInt, Num: 1, L: list(x)})},
		{two(api.Expr{Kind: api.EBool, L: list(x)}, "&&", x), two(api.Expr{Kind: api.EBool, L: list(x)}, "&&", x)},
		{sign("-", api.Expr{Kind: api.EUn, Name: "-", L: list(x, x)}), sign("-", api.Expr{Kind: api.EUn, Name: "-", L: list(x, x)})},
		{two(truth(1), "&&", api.Expr{Kind: api.EBin, Name: "==", L: list(x, x, x)}), two(truth(1), "&&", api.Expr{Kind: api.EBin, Name: "==", L: list(x, x, x)})},
	} {
		if got := fold.Expr(c.x); !equal(got, c.want) {
			t.Errorf("Expr(%v) = %v; want %v", c.x, got, c.want)
		}
	}
}

// program is the program of a source.
func program(t testing.TB, s string) api.Prog {
	t.Helper()
	p, at, e := syntax.Parse(s)
	if e != api.OK {
		t.Fatalf("Parse(%q): %d at %d", s, e, at)
	}
	return p
}

func TestProg(t *testing.T) { // P5.3: each expression of each statement, and nothing else
	for s, want := range map[string]string{
		"":              "",
		"proc main(){}": "proc main(){}",
		"proc f(int a,bool b) int {var x;var bool y;var z[3];return a*1;} proc g(){return;}":                                                 "proc f(int a,bool b) int {var x;var bool y;var z[3];return a;} proc g(){return;}",
		"proc main(){x=1+1;a[1+1]=x+0;print 2*3;read x;assert 1<2;f();}":                                                                     "proc main(){x=2;a[2]=x;print 6;read x;assert true;f();}",
		"proc main(){if(true&&x<1){x=0+y;}else{x=1*y;} if(false){print 1+1;} while(!!(x<y)){print 1-2;if(x){f(1+1,x,y/1);}else{y=f(3%2);}}}": "proc main(){if(x<1){x=y;}else{x=y;} if(false){print 2;} while(x<y){print -1;if(x){f(2,x,y);}else{y=f(1);}}}",
	} {
		got := fold.Prog(program(t, s))
		text, e := syntax.Print(got)
		if canonical, _ := syntax.Print(program(t, want)); text != canonical || e != api.OK {
			t.Errorf("Prog(%q) = %q, %d; want %q", s, text, e, canonical)
		}
	}
}

func TestProgOddForms(t *testing.T) { // P5.3: statements that are none
	sum := list(two(whole(1), "+", whole(1)), named("x"))
	inner := []api.Stmt{{Kind: 99, Name: "n", Proc: "p", Num: -7, E: sum}}
	p := api.Prog{Procs: []api.Proc{{Name: "q", Type: 9, Params: []api.Param{{Name: "a", Type: 7}}, Body: []api.Stmt{{Kind: api.SPrint, E: sum, Body: inner, Else: inner}}}}}
	was := list(whole(2), named("x"))
	within := []api.Stmt{{Kind: 99, Name: "n", Proc: "p", Num: -7, E: was}}
	want := api.Prog{Procs: []api.Proc{{Name: "q", Type: 9, Params: []api.Param{{Name: "a", Type: 7}}, Body: []api.Stmt{{Kind: api.SPrint, E: was, Body: within, Else: within}}}}}
	if got := fold.Prog(p); !reflect.DeepEqual(got, want) {
		t.Errorf("Prog(%v) = %v", p, got)
	}
}
