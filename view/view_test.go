package view_test

import (
	"math"
	"slices"
	"strconv"
	"strings"
	"testing"

	"parallax/api"
	"parallax/gen"
	"parallax/live"
	"parallax/syntax"
	"parallax/view"
	"parallax/vm"
)

func program(t *testing.T, s string) api.Prog {
	t.Helper()
	p, at, e := syntax.Parse(s)
	if e != api.OK {
		t.Fatalf("Parse(%q): %d, %d", s, at, e)
	}
	return p
}

func rowsOf(t *testing.T, s string) []view.Row {
	t.Helper()
	l, e := view.List(program(t, s))
	if e != api.OK {
		t.Fatalf("List of %q: %d", s, e)
	}
	return l
}

// drawn is the text of rows: of each the procedure, the mark and the text.
func drawn(l []view.Row) string {
	var s strings.Builder
	for _, r := range l {
		s.WriteString(strconv.Itoa(r.Proc) + " " + strconv.Itoa(r.Mark) + "|" + r.Text + "\n")
	}
	return s.String()
}

func TestList(t *testing.T) { // P17.1
	for _, c := range []struct{ s, want string }{
		{"", ""},
		{"proc main ( ) { }", "0 0|proc main ( ) {\n0 1|}\n"},
		{"proc main ( ) { if ( true ) { print 1 ; } }", "0 0|proc main ( ) {\n0 1|  if ( true ) {\n0 2|    print 1 ;\n0 -1|  }\n0 3|}\n"}, // the chapter's example
		{"proc main(){f(1,true);} proc f(int a,bool b)int{return a;} proc g()bool{return!true;}",
			"0 0|proc main ( ) {\n0 1|  f ( 1 , true ) ;\n0 2|}\n" +
				"1 0|proc f ( int a , bool b ) int {\n1 1|  return a ;\n1 2|}\n" +
				"2 0|proc g ( ) bool {\n2 1|  return ! true ;\n2 2|}\n"},
		{"proc f(){if(x){}else{read y;} if(x){read y;}else{} if(x){} while((x<y)){}}",
			"0 0|proc f ( ) {\n0 1|  if ( x ) {\n0 -1|  } else {\n0 2|    read y ;\n0 -1|  }\n0 3|  if ( x ) {\n0 4|    read y ;\n0 -1|  }\n" +
				"0 5|  if ( x ) {\n0 -1|  }\n0 6|  while ( x < y ) {\n0 -1|  }\n0 7|}\n"},
		{"proc f(){while(a){if(b){while(c){x=1;}}else{if(d){y=2;}else{z=3;}}return;}}",
			"0 0|proc f ( ) {\n0 1|  while ( a ) {\n0 2|    if ( b ) {\n0 3|      while ( c ) {\n0 4|        x = 1 ;\n0 -1|      }\n0 -1|    } else {\n" +
				"0 5|      if ( d ) {\n0 6|        y = 2 ;\n0 -1|      } else {\n0 7|        z = 3 ;\n0 -1|      }\n0 -1|    }\n0 8|    return ;\n0 -1|  }\n0 9|}\n"},
		{"proc p(){var x;var bool y;var z[9];x=1+2*3;z[(1+2)]=z[0];p();x=p(1,(x+y));x=p();return;return 1;print-(x+1);read x;assert(x<=1);}",
			"0 0|proc p ( ) {\n0 1|  var x ;\n0 2|  var bool y ;\n0 3|  var z [ 9 ] ;\n0 4|  x = 1 + ( 2 * 3 ) ;\n0 5|  z [ 1 + 2 ] = z [ 0 ] ;\n" +
				"0 6|  p ( ) ;\n0 7|  x = p ( 1 , x + y ) ;\n0 8|  x = p ( ) ;\n0 9|  return ;\n0 10|  return 1 ;\n0 11|  print - ( x + 1 ) ;\n0 12|  read x ;\n0 13|  assert x <= 1 ;\n0 14|}\n"},
	} {
		if got := drawn(rowsOf(t, c.s)); got != c.want {
			t.Errorf("%q:\n%s\nwant\n%s", c.s, got, c.want)
		}
	}
}

// inBlocks is a statement in so many blocks of others.
func inBlocks(s api.Stmt, n int) api.Prog {
	for range n {
		s = api.Stmt{Kind: api.SWhile, E: []api.Expr{{Kind: api.EBool, Num: 1}}, Body: []api.Stmt{s}}
	}
	return api.Prog{Procs: []api.Proc{{Name: "main", Body: []api.Stmt{s}}}}
}

func TestListErrors(t *testing.T) { // P17.1: Print's
	x := api.Expr{Kind: api.EVar, Name: "x"}
	two := api.Expr{Kind: api.EBin, Name: "+", L: []api.Expr{x, x}}
	minus := api.Expr{Kind: api.EUn, Name: "-", L: []api.Expr{two}}
	stop := api.Stmt{Kind: api.SReturn}
	for i, c := range []struct {
		p api.Prog
		e api.Errno
	}{
		{api.Prog{}, api.OK},
		{api.Prog{Procs: []api.Proc{}}, api.OK},
		{api.Prog{Procs: []api.Proc{{Name: "if"}}}, api.ErrForm},
		{api.Prog{Procs: []api.Proc{{Name: "f", Type: 3}}}, api.ErrForm},
		{api.Prog{Procs: []api.Proc{{Name: "f", Params: []api.Param{{Name: "a"}}}}}, api.ErrForm},
		{api.Prog{Procs: []api.Proc{{Name: "f"}, {Name: "g", Body: []api.Stmt{{}}}}}, api.ErrForm},
		{inBlocks(api.Stmt{Kind: api.SRead, Name: "1"}, 9), api.ErrForm},
		{inBlocks(api.Stmt{Kind: api.SRead, Name: "1"}, 99), api.ErrForm},
		{inBlocks(stop, api.MaxDeep-1), api.OK},
		{inBlocks(stop, api.MaxDeep), api.ErrDeep},
		{inBlocks(api.Stmt{Kind: api.SPrint, E: []api.Expr{x}}, api.MaxDeep-2), api.OK},
		{inBlocks(api.Stmt{Kind: api.SPrint, E: []api.Expr{x}}, api.MaxDeep-1), api.ErrDeep},
		{inBlocks(api.Stmt{Kind: api.SPrint, E: []api.Expr{minus}}, api.MaxDeep-4), api.OK}, // 1 deeper for the sign, and 1 for its brackets
		{inBlocks(api.Stmt{Kind: api.SPrint, E: []api.Expr{minus}}, api.MaxDeep-3), api.ErrDeep},
	} {
		l, e := view.List(c.p)
		if _, want := syntax.Print(c.p); e != c.e || e != want || e != api.OK && len(l) > 0 {
			t.Errorf("%d: %d rows, %d; want %d, and Print's %d", i, len(l), e, c.e, want)
		}
	}
}

func TestFind(t *testing.T) { // P17.1
	l := rowsOf(t, "proc f ( ) { if ( x ) { read y ; } else { read z ; } } proc main ( ) { }")
	for _, c := range []struct{ proc, mark, want int }{
		{0, 0, 0}, {0, 1, 1}, {0, 2, 2}, {0, 3, 4}, {0, 4, 6}, {1, 0, 7}, {1, 1, 8},
		{0, 5, -1}, {0, -1, -1}, {1, -1, -1}, {1, 2, -1}, {2, 0, -1}, {-1, 0, -1}, {-1, -1, -1},
		{0, math.MaxInt, -1}, {0, math.MinInt, -1}, {math.MaxInt, 0, -1}, {math.MinInt, 0, -1},
	} {
		if got := view.Find(l, c.proc, c.mark); got != c.want {
			t.Errorf("%d, %d: %d, want %d", c.proc, c.mark, got, c.want)
		}
	}
	if got := view.Find(nil, 0, 0); got != -1 {
		t.Errorf("of no rows: %d", got)
	}
	odd := []view.Row{{"", 5, -7}, {"", 5, 9}, {"", -5, 9}, {"", 5, 9}}
	for _, c := range []struct{ proc, mark, want int }{{5, 9, 1}, {-5, 9, 2}, {5, -7, -1}} {
		if got := view.Find(odd, c.proc, c.mark); got != c.want {
			t.Errorf("%d, %d: %d, want %d", c.proc, c.mark, got, c.want)
		}
	}
}

// numbered are so many rows.
func numbered(n int) []view.Row {
	var l []view.Row
	for i := range n {
		l = append(l, view.Row{Text: "  row " + strconv.Itoa(i+1)})
	}
	return l
}

func TestShow(t *testing.T) { // P17.2
	for _, c := range []struct {
		rows, at, n int
		want        string
	}{
		{1, 0, 0, "> 1   row 1"},
		{1, 0, 7, "> 1   row 1"},
		{3, 1, 0, "> 2   row 2"},
		{3, 1, 1, "  1   row 1\n> 2   row 2\n  3   row 3"},
		{3, 0, 1, "> 1   row 1\n  2   row 2"},
		{3, 2, 1, "  2   row 2\n> 3   row 3"},
		{3, 1, math.MaxInt, "  1   row 1\n> 2   row 2\n  3   row 3"},
		{9, 8, 1, "  8   row 8\n> 9   row 9"},
		{10, 8, 0, "> 9   row 9"}, // as wide as what is shown
		{10, 8, 1, "   8   row 8\n>  9   row 9\n  10   row 10"},
		{10, 9, 1, "   9   row 9\n> 10   row 10"},
		{100, 98, 1, "   98   row 98\n>  99   row 99\n  100   row 100"},
		{100, 97, 1, "  97   row 97\n> 98   row 98\n  99   row 99"},
	} {
		l := numbered(c.rows)
		got, e := view.Show(l, c.at, c.n)
		if e != api.OK || strings.Join(got, "\n") != c.want {
			t.Errorf("%d of %d, %d about it:\n%s\n%d; want\n%s", c.at, c.rows, c.n, strings.Join(got, "\n"), e, c.want)
		}
		if !slices.Equal(l, numbered(c.rows)) {
			t.Errorf("the rows were changed")
		}
	}
	got, e := view.Show([]view.Row{{}, {Text: "x"}}, 0, 3)
	if e != api.OK || !slices.Equal(got, []string{"> 1 ", "  2 x"}) {
		t.Errorf("a row without a text: %q, %d", got, e)
	}
}

func TestShowErrors(t *testing.T) { // P17.2
	for _, c := range []struct {
		rows, at, n int
		e           api.Errno
	}{
		{3, 0, 0, api.OK}, {3, 2, 0, api.OK}, {3, 3, 0, api.ErrPlace}, {3, -1, 0, api.ErrPlace}, {0, 0, 0, api.ErrPlace},
		{3, math.MaxInt, math.MaxInt, api.ErrPlace}, {3, math.MinInt, 5, api.ErrPlace}, {3, 1, -1, api.ErrArg}, {3, 1, math.MinInt, api.ErrArg},
		{3, 3, -1, api.ErrPlace}, {3, -1, -1, api.ErrPlace}, {0, 0, -1, api.ErrPlace},
	} {
		if l, e := view.Show(numbered(c.rows), c.at, c.n); e != c.e || e != api.OK && len(l) > 0 {
			t.Errorf("%d of %d, %d about it: %q, %d; want %d", c.at, c.rows, c.n, l, e, c.e)
		}
	}
}

func built(t *testing.T, s string, plain bool, keep ...gen.Keep) gen.Build {
	t.Helper()
	b, at, e := gen.Compile(program(t, s), keep, plain)
	if e != api.OK {
		t.Fatalf("Compile(%q): %v, %d", s, at, e)
	}
	return b
}

// stacks asks for the lines of all frames at each position, from 0 up to the end; lines of one position have a / between.
func stacks(t *testing.T, b gen.Build, input []int64, fuel int, want ...string) {
	t.Helper()
	m, e := gen.Start(b, input, fuel)
	if e != api.OK {
		t.Fatalf("Start: %d", e)
	}
	for k, lines := range want {
		got := strings.Join(view.Stack(b, m), " / ")
		if got != lines {
			t.Errorf("plain %v, at %d: %q; want %q", b.Plain, k, got, lines)
		}
		if m.Ended() != (k == len(want)-1) {
			t.Fatalf("at %d of %d: ended %v", k, len(want)-1, m.Ended())
		}
		m.Step()
	}
}

func TestFrame(t *testing.T) { // P17.3
	s := "proc main ( ) { var x ; var bool b ; var v [ 3 ] ; read x ; b = x < 0 ; v [ 1 ] = x ; if ( b ) { var y ; y = 1 ; } }"
	stacks(t, built(t, s, true), []int64{-5}, 99,
		"main -1", "main 0", "main 1", "main 2: x = 0", "main 3: x = 0, b = false", "main 4: x = 0, b = false, v = [ 0 0 0 ]",
		"main 5: x = -5, b = false, v = [ 0 0 0 ]", "main 6: x = -5, b = true, v = [ 0 0 0 ]", "main 7: x = -5, b = true, v = [ 0 -5 0 ]",
		"main 8: x = -5, b = true, v = [ 0 -5 0 ]", "main 9: x = -5, b = true, v = [ 0 -5 0 ], y = 0", "main 10", "")
	stacks(t, built(t, s, false), []int64{-5}, 99,
		"main -1", "main 0", "main 1", "main 2: x = ?", "main 3: x = ?, b = ?", "main 4: x = ?, b = ?, v = [ 0 0 0 ]",
		"main 5: x = -5, b = ?, v = [ 0 0 0 ]", "main 6: x = -5, b = true, v = [ 0 0 0 ]", "main 7: x = ?, b = true, v = ?",
		"main 8: x = ?, b = ?, v = ?", "main 9: x = ?, b = ?, v = ?, y = ?", "main 10", "")
	one := "proc main ( ) { var v [ 1 ] ; v [ 0 ] = 9223372036854775807 ; v [ 0 ] = - 9223372036854775807 - 1 ; print v [ 0 ] ; }"
	stacks(t, built(t, one, true), nil, 99,
		"main -1", "main 0", "main 1", "main 2: v = [ 0 ]", "main 3: v = [ 9223372036854775807 ]", "main 4: v = [ -9223372036854775808 ]", "main 5", "")
}

func TestStack(t *testing.T) { // P17.3: the last frame first
	s := "proc f ( int a , bool b ) int { g ( ) ; return a ; } proc g ( ) { var z ; assert false ; } proc main ( ) { var x ; x = f ( 4 , true ) ; print x ; }"
	outer, inner := "main 2: x = 0", "f 1: a = 4, b = true"
	ended := "g 2: z = ? / f 1: a = ?, b = ? / main 2: x = ?" // nothing can be told of a machine that has ended
	stacks(t, built(t, s, true), nil, 99,
		"main -1", "main 0", "main 1", outer, "f 0: a = 4, b = true / "+outer, inner+" / "+outer,
		"g 0 / "+inner+" / "+outer, "g 1 / "+inner+" / "+outer, "g 2: z = 0 / "+inner+" / "+outer, ended)
	outer, inner = "main 2: x = ?", "f 1: a = 4, b = ?"
	stacks(t, built(t, s, false), nil, 99,
		"main -1", "main 0", "main 1", outer, "f 0: a = 4, b = ? / "+outer, inner+" / "+outer,
		"g 0 / "+inner+" / "+outer, "g 1 / "+inner+" / "+outer, "g 2: z = ? / "+inner+" / "+outer, ended)
	kept := "main 2: x = 0"
	stacks(t, built(t, s, false, gen.Keep{Proc: "f", Var: "b"}, gen.Keep{Proc: "main", Var: "x"}), nil, 5,
		"main -1", "main 0", "main 1", kept, "f 0: a = 4, b = true / "+kept, "f 1: a = 4, b = true / "+kept, "g -1 / f 1: a = ?, b = ? / main 2: x = ?")
}

func TestFrameErrors(t *testing.T) { // P17.3
	b := built(t, "proc main ( ) { main ( ) ; }", true)
	m, _ := gen.Start(b, nil, 99)
	for range 3 {
		m.Step()
	}
	for _, c := range []struct {
		m    *vm.Machine
		k    int
		line string
		e    api.Errno
	}{
		{m, 0, "main 1", api.OK}, {m, 1, "main 0", api.OK}, {m, 2, "", api.ErrPlace}, {m, -1, "", api.ErrPlace},
		{m, math.MaxInt, "", api.ErrPlace}, {m, math.MinInt, "", api.ErrPlace}, {nil, 0, "", api.ErrPlace}, {new(vm.Machine), 0, "", api.ErrPlace},
	} {
		if line, e := view.Frame(b, c.m, c.k); line != c.line || e != c.e {
			t.Errorf("the frame %d: %q, %d; want %q, %d", c.k, line, e, c.line, c.e)
		}
	}
	if l := view.Stack(b, nil); len(l) > 0 {
		t.Errorf("the stack of no machine: %q", l)
	}
	other := built(t, "proc f ( ) { } proc g ( int a ) { } proc main ( ) { g ( 1 ) ; }", true)
	n, _ := gen.Start(other, nil, 99)
	for range 3 {
		n.Step()
	}
	odd := other
	odd.Info.Vars, odd.Tables = odd.Info.Vars[:1], []live.Table{{}}
	headless := other
	headless.Prog.Procs = headless.Prog.Procs[:1]
	for _, x := range []gen.Build{b, {}, odd, headless} { // P1: a machine of another build
		view.Stack(x, n)
		for k := range 4 {
			if line, e := view.Frame(x, n, k-1); e != api.OK && line != "" {
				t.Errorf("%q, %d", line, e)
			}
		}
	}
}

func TestTick(t *testing.T) { // P17.4
	p := program(t, "proc f ( ) { } proc main ( ) { }")
	for _, c := range []struct {
		tick api.Tick
		line string
		e    api.Errno
	}{
		{api.Tick{Kind: api.MEnter, Proc: 1, Depth: 1}, "enter main (depth 1)", api.OK},
		{api.Tick{Kind: api.MEnter, Proc: 0, Mark: 7, Depth: 50}, "enter f (depth 50)", api.OK},
		{api.Tick{Kind: api.MStmt, Proc: 1, Mark: 3, Depth: 1}, "at main 3 (depth 1)", api.OK},
		{api.Tick{Kind: api.MLeave, Proc: 0, Mark: 2, Depth: 2}, "leave f (depth 2)", api.OK},
		{api.Tick{Kind: api.MStmt, Mark: math.MinInt, Depth: math.MaxInt}, "at f -9223372036854775808 (depth 9223372036854775807)", api.OK},
		{api.Tick{Kind: api.MLeave, Depth: -3}, "leave f (depth -3)", api.OK},
		{api.Tick{Kind: api.MEnter, Proc: 2, Depth: 1}, "", api.ErrPlace},
		{api.Tick{Kind: api.MEnter, Proc: -1, Depth: 1}, "", api.ErrPlace},
		{api.Tick{Kind: api.MEnter, Proc: math.MaxInt}, "", api.ErrPlace},
		{api.Tick{Kind: 0, Proc: 2}, "", api.ErrPlace},
		{api.Tick{Kind: 0, Depth: 1}, "", api.ErrForm},
		{api.Tick{Kind: 4, Depth: 1}, "", api.ErrForm},
		{api.Tick{Kind: -1, Proc: 1, Depth: 1}, "", api.ErrForm},
	} {
		if line, e := view.Tick(p, c.tick); line != c.line || e != c.e {
			t.Errorf("%v: %q, %d; want %q, %d", c.tick, line, e, c.line, c.e)
		}
	}
	if line, e := view.Tick(api.Prog{}, api.Tick{Kind: api.MEnter, Depth: 1}); line != "" || e != api.ErrPlace {
		t.Errorf("of no program: %q, %d", line, e)
	}
}
