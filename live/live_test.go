package live_test

import (
	"reflect"
	"strconv"
	"strings"
	"testing"

	"parallax/api"
	"parallax/check"
	"parallax/live"
	"parallax/syntax"
)

// helpers are procedures that bodies in the tests call.
const helpers = "proc h(){} proc f(int a) int {return a;} proc g(int a,bool b) bool {return b;}"

// head is a procedure of a source with the helpers behind it, and its variables.
func head(t *testing.T, s string) (api.Proc, []api.Var) {
	t.Helper()
	p, at, e := syntax.Parse(s + helpers)
	if e != api.OK {
		t.Fatalf("Parse(%q): %d at %d", s, e, at)
	}
	info, place, e := check.Check(p)
	if e != api.OK {
		t.Fatalf("Check(%q): %d at %v", s, e, place)
	}
	return p.Procs[0], info.Vars[0]
}

// body is the procedure main of a body, and its variables.
func body(t *testing.T, s string) (api.Proc, []api.Var) {
	t.Helper()
	return head(t, "proc main(){"+s+"}")
}

// rows are the names of the variables of each row.
func rows(l [][]bool, vars []api.Var) string {
	var all []string
	for _, row := range l {
		if len(row) != len(vars) {
			return "a row of " + strconv.Itoa(len(row))
		}
		var names []string
		for i, in := range row {
			if in {
				names = append(names, vars[i].Name)
			}
		}
		all = append(all, strings.Join(names, " "))
	}
	return strings.Join(all, "|")
}

// numbers is a list of numbers as a text.
func numbers(l []int) string {
	var s []string
	for _, n := range l {
		s = append(s, strconv.Itoa(n))
	}
	return strings.Join(s, " ")
}

func TestReads(t *testing.T) { // P6.1
	const start = "var x;var bool b;var a[3];var y;var z;"
	for s, want := range map[string]string{
		"x=1;": "", "x=x;": "0", "x=y+x*y;": "0 3", "z=-(y+(z-x));": "0 3 4", "b=!b;": "1", "b=x<y||!b&&z==1;": "0 1 3 4",
		"x=a[y];": "2 3", "x=a[a[z]];": "2 4", "a[1]=2;": "2", "a[x]=y;": "0 2 3", "a[a[0]]=a[1];": "2",
		"var w;": "", "var w[2];": "", "read x;": "", "print x;": "0", "print a[2];": "2", "assert b;": "1",
		"if(b){print x;}else{print y;}": "1", "while(x<z){x=y;}": "0 4", "return;": "",
		"h();": "", "f(y);": "3", "x=f(z+y);": "3 4", "b=g(a[x],b);": "0 1 2",
	} {
		p, vars := body(t, start+s)
		x, _ := check.Stmt(p, 6)
		if got := numbers(live.Reads(x, vars, 6)); got != want {
			t.Errorf("Reads(%q) = %q; want %q", s, got, want)
		}
	}
}

func TestReadsInScope(t *testing.T) { // P6.1: names are found at the mark
	vars := []api.Var{{Name: "x", Type: api.Int, From: 2, To: 4}, {Name: "y", Type: api.Int, To: 9}, {Name: "x", Type: api.Int, From: 6, To: 8}, {Name: "x", Type: api.Int, From: 7, To: 7}}
	s := api.Stmt{Kind: api.SPrint, E: []api.Expr{two(named("y"), "+", two(named("x"), "*", named("x")))}}
	for mark, want := range []string{"1", "1", "0 1", "0 1", "0 1", "1", "1 2", "1 2", "1 2", "1", ""} {
		if got := numbers(live.Reads(s, vars, mark)); got != want {
			t.Errorf("at %d: %q; want %q", mark, got, want)
		}
	}
	put := api.Stmt{Kind: api.SPut, Name: "x", E: []api.Expr{whole(0), whole(1)}}
	for mark, want := range []string{"", "", "0", "0", "0", "", "2", "2", "2", ""} {
		if got := numbers(live.Reads(put, vars, mark)); got != want {
			t.Errorf("put at %d: %q; want %q", mark, got, want)
		}
	}
}

func TestSets(t *testing.T) { // P6.1
	const start = "var x;var bool b;var a[3];"
	for s, want := range map[string]int{
		"x=1;": 0, "b=true;": 1, "a[1]=2;": -1, "var w;": 3, "var bool w;": 3, "var w[2];": 3, "var w;print w;": 3, "read x;": 0,
		"print x;": -1, "assert b;": -1, "if(b){x=1;}": -1, "while(b){x=1;}": -1, "return;": -1,
		"h();": -1, "f(1);": -1, "x=f(1);": 0, "b=g(1,b);": 1,
	} {
		p, vars := body(t, start+s)
		x, _ := check.Stmt(p, 4)
		if got := live.Sets(x, vars, 4); got != want {
			t.Errorf("Sets(%q) = %d; want %d", s, got, want)
		}
	}
}

func TestSetsInScope(t *testing.T) { // P6.1: names are found at the mark, what is declared behind it
	p, vars := head(t, "proc f0(int a){while(true){var x;}if(true){var y;y=1;}else{var z;}var w;}proc main(){}")
	for mark, want := range map[int]int{2: 1, 4: 2, 5: 2, 6: 3, 7: 4} {
		s, _ := check.Stmt(p, mark)
		if got := live.Sets(s, vars, mark); got != want {
			t.Errorf("at %d: %d; want %d", mark, got, want)
		}
	}
	for _, s := range []api.Stmt{{Kind: api.SSet, Name: "y", E: []api.Expr{whole(1)}}, {Kind: api.SRead, Name: "y"}, {Kind: api.SCall, Proc: "f", Name: "y"}} {
		for mark, want := range []int{-1, -1, -1, -1, -1, 2, -1, -1, -1} {
			if got := live.Sets(s, vars, mark); got != want {
				t.Errorf("%v at %d: %d; want %d", s, mark, got, want)
			}
		}
		s.Name = "nope"
		if got := live.Sets(s, vars, 5); got != -1 {
			t.Errorf("%v: %d", s, got)
		}
	}
}

func TestSetsNothing(t *testing.T) { // P6.1: what has no name takes nothing
	if got := live.Sets(api.Stmt{Kind: api.SCall, Proc: "h"}, []api.Var{{To: 9}}, 1); got != -1 {
		t.Errorf("a call without a Name sets %d", got)
	}
	for kind := -1; kind <= api.SAssert+1; kind++ {
		sets := kind == api.SSet || kind == api.SRead || kind == api.SCall
		if got := live.Sets(api.Stmt{Kind: kind, Name: "x"}, []api.Var{{Name: "x", To: 9}}, 1); (got == 0) != sets || got > 0 {
			t.Errorf("the kind %d sets %d", kind, got)
		}
	}
}

func TestNext(t *testing.T) { // P6.2: each mark from 0 to n + 1
	for s, want := range map[string]string{
		"":                  "1|",
		"print 1;":          "1|2|",
		"print 1;print 2;":  "1|2|3|",
		"return;":           "1|2|",
		"return;print 1;":   "1|3|3|",
		"if(true){}":        "1|2|",
		"if(true){}else{}":  "1|2|",
		"while(true){}":     "1|1 2|",
		"if(true){h();}":    "1|2 3|3|",
		"var x;x=f(1);h();": "1|2|3|4|",
		"if(true){print 1;}else{print 2;print 3;}print 4;":              "1|2 3|5|4|5|6|",
		"if(true){}else{print 2;}print 4;":                              "1|2 3|3|4|",
		"while(true){print 1;print 2;}print 3;":                         "1|2 4|3|1|5|",
		"while(true){if(true){print 1;}}":                               "1|2 4|1 3|1|",
		"while(true){if(true){print 1;}else{print 2;}}":                 "1|2 5|3 4|1|1|",
		"while(true){if(true){}}":                                       "1|2 3|1|",
		"while(true){while(true){while(true){}}}":                       "1|2 4|1 3|2 3|",
		"while(true){while(true){print 1;}print 2;}":                    "1|2 5|3 4|2|1|",
		"if(true){if(true){return;}else{print 1;}}else{h();}var x;":     "1|2 5|3 4|7|6|6|7|",
		"if(true){while(true){print 1;}}print 2;":                       "1|2 4|3 4|2|5|",
		"while(true){return;}":                                          "1|2 3|3|",
		"var x;read x;assert x==1;x=2;":                                 "1|2|3|4|5|",
		"while(true){if(true){if(true){print 1;}}else{print 2;}}h();":   "1|2 6|3 5|1 4|1|1|7|",
		"if(true){if(true){print 1;}else{}}else{while(true){}}print 1;": "1|2 4|3 5|5|4 5|6|",
	} {
		p, _ := body(t, s)
		var got []string
		for mark := range check.Count(p) + 2 {
			got = append(got, numbers(live.Next(p, mark)))
		}
		if strings.Join(got, "|") != want {
			t.Errorf("%q: %s; want %s", s, strings.Join(got, "|"), want)
		}
		for _, mark := range []int{-1 << 63, -2, -1, check.Count(p) + 2, 1 << 40, 1<<63 - 1} {
			if l := live.Next(p, mark); len(l) > 0 {
				t.Errorf("%q at %d: %v", s, mark, l)
			}
		}
	}
}

func TestNeeded(t *testing.T) { // P6.3: each mark from 0 to n + 1
	for s, want := range map[string]string{
		"":                       "|",
		"var x;":                 "||",
		"var x;print x;":         "||x|",
		"var x;x=1;print 2;":     "||||",
		"var x;x=x+1;":           "||x|",
		"var x;x=1;x=2;print x;": "||||x|",
		"var x;var y;x=1;print x;read y;print y;":                            "||||x||y|",
		"var x;while(x<3){x=x+1;}":                                           "||x|x|",
		"var x;while(x<3){read x;}":                                          "||x||",
		"var x;var y;read x;if(x==1){y=2;}else{y=3;}print y;":                "||||x|||y|",
		"var x;var y;read x;if(x==1){y=2;}print y;":                          "|||y|x y||y|",
		"var x;x=1;return;print x;":                                          "||||x|",
		"var a[2];a[0]=1;print a[1];":                                        "||a|a|",
		"var a[2];a[0]=1;a[1]=2;":                                            "||a|a|",
		"var a[2];var a2[2];a2[a[1]]=2;":                                     "||a|a a2|",
		"var x;x=1;x=f(x);print x;":                                          "|||x|x|",
		"var x;x=1;f(x);print x;":                                            "|||x|x|",
		"var x;var y;x=f(y);print x;":                                        "|||y|x|",
		"var x;while(true){if(x==0){x=1;}else{return;}}":                     "||x|x|||",
		"var x;while(true){var y;y=y+x;print y;}":                            "||x|x|x y|x y|",
		"var x;var y;while(x<1){while(y<1){y=1;}x=1;}":                       "||x|x y|y||y|",
		"var bool b;b=!b;assert b;if(b){return;}print b;":                    "||b|b|b||b|",
		"var x;var y;if(true){print x;}else{print y;}":                       "||x|x y|x|y|",
		"var x;x=1;while(false){print x;}":                                   "|||x|x|",
		"var x;read x;var y;y=x;if(y<1){y=2;}else{while(y<x){y=y+1;}}h();":   "|||x|x|x y||x y|x y||",
		"var i;while(i<2){if(i==1){var k;print k;}var j;j=i;print j;i=i+1;}": "||i|i|i|i k|i|i|i j|i|",
	} {
		p, vars := body(t, s)
		if got := rows(live.Needed(p, vars), vars); got != want {
			t.Errorf("%q:\n%s; want\n%s", s, got, want)
		}
	}
	p, vars := head(t, "proc f0(int a,bool b) int {if(b){return a;}a=1;return a;}proc main(){}")
	if got := rows(live.Needed(p, vars), vars); got != "a b|a b|a||a|" {
		t.Errorf("parameters: %s", got)
	}
}

// tables asks for a table: what can be told at marks, while calls last, and the cells.
func tables(t *testing.T, p api.Proc, vars []api.Var, kept string, plain bool, at, over, cells string, size int) {
	t.Helper()
	got := live.Make(p, vars, strings.Fields(kept), plain)
	if rows(got.At, vars) != at || rows(got.Over, vars) != over || numbers(got.Cells) != cells || got.Size != size {
		t.Errorf("kept %q, plain %v: at %s, over %s, cells %s, %d", kept, plain, rows(got.At, vars), rows(got.Over, vars), numbers(got.Cells), got.Size)
	}
}

func TestMake(t *testing.T) { // P6.4
	p, vars := body(t, "var x;var y;x=1;print x;read y;print y;")
	tables(t, p, vars, "", false, "||||x||y|", "|||||||", "0 0", 1)
	tables(t, p, vars, "nope x y1", false, "||x|x|x|x|x y|", "|||||||", "0 1", 2)
	tables(t, p, vars, "y", false, "|||y|x y|y|y|", "|||||||", "0 1", 2)
	tables(t, p, vars, "x y x", false, "||x|x y|x y|x y|x y|", "|||||||", "0 1", 2)
	tables(t, p, vars, "", true, "||x|x y|x y|x y|x y|", "|||||||", "0 1", 2)
	tables(t, p, vars, "x", true, "||x|x y|x y|x y|x y|", "|||||||", "0 1", 2)
	p, vars = body(t, "")
	tables(t, p, vars, "", false, "|", "|", "", 0)
	tables(t, p, vars, "x", true, "|", "|", "", 0)
	p, vars = body(t, "if(true){var x;}else{var y[3];}var z;")
	tables(t, p, vars, "", false, "|||||", "|||||", "0 0 0", 3)
	tables(t, p, vars, "x y z", false, "|||||", "|||||", "0 0 0", 3)
	tables(t, p, vars, "", true, "|||||", "|||||", "0 1 4", 5)
}

func TestMakeOver(t *testing.T) { // P6.4: while calls last
	p, vars := body(t, "var x;var y;x=1;y=2;y=f(y);print x;print y;")
	tables(t, p, vars, "", false, "||||x|x y|x y|y|", "|||||x|||", "0 1", 2)
	tables(t, p, vars, "y", false, "|||y|x y|x y|x y|y|", "|||||x y|||", "0 1", 2)
	tables(t, p, vars, "", true, "||x|x y|x y|x y|x y|x y|", "|||||x y|||", "0 1", 2)
	p, vars = body(t, "var x;h();var y;f(x);while(y<1){h();y=f(y);}h();")
	tables(t, p, vars, "", false, "||x|x|x y|y|y|y||", "||x||y||y|||", "0 1", 2)
	p, vars = body(t, "var bool b;if(b){var w;w=f(w);h();}print b;")
	tables(t, p, vars, "w", false, "||b|b|b w|b w|b|", "||||b w|b w||", "0 1", 2)
	tables(t, p, vars, "", false, "||b|b|b w|b|b|", "||||b|b||", "0 1", 2)
	p, vars = head(t, "proc f0(int a,int b) int {a=f0(b,a);return a;}proc main(){}")
	tables(t, p, vars, "", false, "a b|a b|a|", "|||", "0 1", 2)
	tables(t, p, vars, "a", false, "a b|a b|a|a", "|a||", "0 1", 2)
	tables(t, p, vars, "", true, "a b|a b|a b|a b", "|a b||", "0 1", 2)
}

func TestCells(t *testing.T) { // P6.4: from the lowest cell on
	for s, want := range map[string][2]string{
		"var a[3];var x;var b[2];print a[0];print x;print b[1];":                         {"0 3 4: 6", "0 3 4: 6"},
		"var a[3];print a[0];var x;print x;var b[2];print b[1];":                         {"0 0 0: 3", "0 3 4: 6"},
		"var a[2];var x;print a[0]+x;var b[2];var c;print b[0]+c+x;":                     {"0 2 0 3: 4", "0 2 3 5: 6"},
		"var a[2];var x;print a[0];var b[2];print x+b[0];":                               {"0 2 0: 3", "0 2 3: 5"},
		"var a[2];var x;print a[0];var b[3];print x+b[0];":                               {"0 2 3: 6", "0 2 3: 6"},
		"var x;var y;var z;print x+y+z;print x+z;var w;print w+x+z;var v[2];print v[0];": {"0 1 2 1 0: 3", "0 1 2 3 4: 6"},
		"var x;var y;var z;print x+y+z;print y;var v[2];print v[0]+y;":                   {"0 1 2 2: 4", "0 1 2 3: 5"},
		"var a[64];var b[64];print a[0]+b[0];":                                           {"0 64: 128", "0 64: 128"},
	} {
		p, vars := body(t, s)
		for i, plain := range []bool{false, true} {
			got := live.Make(p, vars, nil, plain)
			if shown := numbers(got.Cells) + ": " + strconv.Itoa(got.Size); shown != want[i] {
				t.Errorf("%q, plain %v: %s; want %s", s, plain, shown, want[i])
			}
		}
	}
	p, vars := head(t, "proc f0(int a,int b,bool c){var x;x=b;print x;var y[2];y[0]=a;print y[1];}proc main(){}")
	if got := live.Make(p, vars, nil, false); numbers(got.Cells) != "0 1 2 1 1" || got.Size != 3 {
		t.Errorf("%v", got)
	}
	if got := live.Make(p, vars, []string{"c", "b"}, false); numbers(got.Cells) != "0 1 2 3 3" || got.Size != 5 {
		t.Errorf("%v", got)
	}
	if got := live.Make(p, vars, nil, true); numbers(got.Cells) != "0 1 2 3 4" || got.Size != 6 {
		t.Errorf("%v", got)
	}
}

func whole(n int64) api.Expr  { return api.Expr{Kind: api.EInt, Num: n} }
func named(s string) api.Expr { return api.Expr{Kind: api.EVar, Name: s} }

func two(x api.Expr, s string, y api.Expr) api.Expr {
	return api.Expr{Kind: api.EBin, Name: s, L: []api.Expr{x, y}}
}

func TestExample(t *testing.T) { // the chapter's example
	p, vars := body(t, "var x ; var y ; x = 1 ; print x ; read y ; print y ;")
	if got := live.Make(p, vars, nil, false).Cells; !reflect.DeepEqual(got, []int{0, 0}) {
		t.Errorf("%v", got)
	}
}
