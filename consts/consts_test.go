package consts_test

import (
	"math"
	"reflect"
	"strconv"
	"strings"
	"testing"

	"parallax/api"
	"parallax/check"
	"parallax/consts"
	"parallax/syntax"
)

func whole(n int64) api.Expr  { return api.Expr{Kind: api.EInt, Num: n} }
func truth(n int64) api.Expr  { return api.Expr{Kind: api.EBool, Num: n} }
func named(s string) api.Expr { return api.Expr{Kind: api.EVar, Name: s} }

func index(s string, x api.Expr) api.Expr {
	return api.Expr{Kind: api.EIndex, Name: s, L: []api.Expr{x}}
}

func sign(s string, x api.Expr) api.Expr {
	return api.Expr{Kind: api.EUn, Name: s, L: []api.Expr{x}}
}

func two(x api.Expr, s string, y api.Expr) api.Expr {
	return api.Expr{Kind: api.EBin, Name: s, L: []api.Expr{x, y}}
}

// told is an answer as a text: a number, ? for nothing, ! for a trap.
func told(n int64, kind int) string {
	switch {
	case kind == 1:
		return strconv.FormatInt(n, 10)
	case n == 0 && kind == 0:
		return "?"
	case n == 0 && kind == 2:
		return "!"
	}
	return "wrong " + strconv.FormatInt(n, 10) + " " + strconv.Itoa(kind)
}

// someVars are x 5, z 0, m the least number, bool b true, bool f false, of which the numbers are known, y and bool c of which not, and an array a of 3.
func someVars() ([]api.Var, consts.State) {
	var vars []api.Var
	s := consts.State{Reached: true, Known: []bool{true, true, true, true, true, false, false, false}, Nums: []int64{5, 0, math.MinInt64, 1, 0, 0, 0, 0}}
	for _, name := range []string{"x", "z", "m", "b", "f", "y", "c", "a"} {
		v := api.Var{Name: name, Type: api.Int, From: 1, To: 9}
		if strings.Contains("bfc", name) {
			v.Type = api.Bool
		}
		if name == "a" {
			v.Size = 3
		}
		vars = append(vars, v)
	}
	return vars, s
}

// answers asks for an expression's answer, by what is known of those variables.
func answers(t *testing.T, x api.Expr, want string) {
	t.Helper()
	vars, s := someVars()
	if got := told(consts.Answer(x, vars, 4, s)); got != want {
		t.Errorf("Answer(%v) = %s; want %s", x, got, want)
	}
}

func TestAnswer(t *testing.T) { // P7.2
	for s, want := range map[string]string{
		"7": "7", "true": "1", "false": "0", "x": "5", "z": "0", "m": "-9223372036854775808", "b": "1", "f": "0", "y": "?", "c": "?", "nope": "?",
		"-x": "-5", "-m": "-9223372036854775808", "-y": "?", "-(1/0)": "!", "!b": "0", "!f": "1", "!c": "?", "!(1/0==1)": "!", "- -x": "5", "!!b": "1",
		"a[0]": "?", "a[2]": "?", "a[3]": "!", "a[-1]": "!", "a[x]": "!", "a[z]": "?", "a[y]": "?", "a[m]": "!", "a[1/0]": "!", "a[a[3]]": "!", "a[a[2]]": "?",
		"nope[1]": "?", "nope[9]": "?", "nope[1/0]": "!",
		"x+2": "7", "x-7": "-2", "x*x": "25", "x/2": "2", "x%3": "2", "m-1": "9223372036854775807", "m/-1": "-9223372036854775808", "m%-1": "0", "-7/2": "-3", "-7%2": "-1",
		"x<5": "0", "x<=5": "1", "x==5": "1", "x!=5": "0", "b==true": "1", "b!=f": "1", "m<z": "1",
		"x+y": "?", "y+x": "?", "y*0": "?", "0*y": "?", "y-y": "?", "y==y": "?", "y<=y": "?", "0/y": "?", "0%y": "?", "y/1": "?",
		"1/0": "!", "1%0": "!", "x/z": "!", "x%z": "!", "y/0": "!", "y%0": "!", "y/z": "!", "0/0": "!", "z/x": "0",
		"1/0+y": "!", "y+1/0": "!", "1/0+1": "!", "1+1/0": "!", "a[3]<y": "!", "y<a[3]": "!", "a[1]==a[3]": "!", "(1/0)/(y-1)": "!", "y/a[1]": "?",
		"f&&c": "0", "f&&1/0==1": "0", "b&&c": "?", "b&&f": "0", "b&&b": "1", "b&&1/0==1": "!", "c&&f": "?", "c&&1/0==1": "?", "1/0==1&&c": "!", "1/0==1&&f": "!",
		"b||c": "1", "b||1/0==1": "1", "f||c": "?", "f||f": "0", "f||b": "1", "f||1/0==1": "!", "c||b": "?", "c||1/0==1": "?", "1/0==1||c": "!", "1/0==1||b": "!",
		"x&&7": "1", "x&&z": "0", "z||7": "1", "z||z": "0", "7||z": "1", "x||1/0": "1", "z&&1/0": "0", "-3&&-2": "1",
		"b&&(f||x<6)": "1", "c&&b||b": "?", "b&&c||b": "?", "f&&c||b": "1", "(c||b)&&f": "?", "(y+1)*(1/0)": "!",
	} {
		x, at, e := syntax.Expr(s)
		if e != api.OK {
			t.Fatalf("Expr(%q): %d at %d", s, e, at)
		}
		answers(t, x, want)
	}
}

func TestAnswerForms(t *testing.T) { // P7.2: what is not built as it must be is answered by nothing
	odd := api.Expr{Kind: 9, Num: 1}
	l := []api.Expr{whole(1), whole(1)}
	for _, x := range []api.Expr{
		{}, odd, {Kind: -1}, {Kind: 7, L: l}, {Kind: api.EInt, Num: 1, L: l}, {Kind: api.EInt, Num: 1, L: l[:1]}, {Kind: api.EBool, Num: 1, L: l[:1]}, {Kind: api.EVar, Name: "x", L: l}, {Kind: api.EVar, Name: "x", L: l[:1]},
		{Kind: api.EIndex, Name: "a"}, {Kind: api.EIndex, Name: "a", L: l}, {Kind: api.EIndex, Name: "a", L: []api.Expr{whole(9), whole(9)}},
		{Kind: api.EUn, Name: "-"}, {Kind: api.EUn, Name: "-", L: l}, {Kind: api.EUn, Name: "+", L: l[:1]}, {Kind: api.EUn, L: l[:1]},
		{Kind: api.EBin, Name: "+"}, {Kind: api.EBin, Name: "+", L: l[:1]}, {Kind: api.EBin, Name: "-", L: l[:1]}, {Kind: api.EBin, Name: "+", L: append(l, l...)},
		{Kind: api.EBin, Name: "!", L: l}, {Kind: api.EBin, Name: "", L: l}, {Kind: api.EBin, Name: ">", L: l}, {Kind: api.EBin, Name: "+ -", L: l},
		{Kind: api.EBin, Name: "=", L: []api.Expr{two(whole(1), "/", whole(0)), whole(1)}}, {Kind: api.EUn, Name: "x", L: []api.Expr{two(whole(1), "/", whole(0))}},
		sign("-", odd), two(odd, "+", whole(1)), two(whole(1), "+", odd), index("a", odd), two(truth(1), "&&", odd), two(odd, "||", truth(1)),
	} {
		answers(t, x, "?")
	}
	answers(t, two(truth(0), "&&", odd), "0")
	answers(t, two(truth(1), "||", odd), "1")
	answers(t, two(odd, "/", whole(0)), "!")
	answers(t, two(odd, "+", index("a", whole(3))), "!")
	answers(t, whole(-4), "-4")
	answers(t, named("a"), "?")
}

func TestAnswerNoTruth(t *testing.T) { // P7.2: an EBool of another number than 1 and 0 is neither true nor false, and answered by nothing
	trap := two(whole(1), "/", whole(0))
	for _, n := range []int64{2, -1, 3, 1 << 32, 1<<32 + 1, 1 << 40, math.MaxInt64, math.MinInt64, math.MinInt64 + 1} {
		no := truth(n)
		for _, x := range []api.Expr{
			no, sign("!", no), sign("-", no), sign("!", sign("!", no)), index("a", no), index("nope", no),
			two(no, "&&", truth(0)), two(no, "&&", truth(1)), two(no, "&&", trap), two(truth(1), "&&", no), two(no, "||", truth(0)), two(no, "||", truth(1)), two(no, "||", trap), two(truth(0), "||", no),
			two(no, "==", no), two(no, "!=", truth(1)), two(truth(0), "==", no), two(no, "<", whole(9)), two(no, "<=", no), two(no, "+", whole(0)), two(whole(4), "-", no), two(no, "*", whole(0)), two(no, "/", whole(1)), two(whole(0), "/", no), two(whole(0), "%", no),
		} {
			answers(t, x, "?")
		}
		answers(t, two(truth(0), "&&", no), "0")
		answers(t, two(truth(1), "||", no), "1")
		for _, x := range []api.Expr{two(no, "/", whole(0)), two(no, "%", truth(0)), two(no, "==", trap), two(trap, "==", no), two(trap, "&&", no), two(trap, "||", no)} {
			answers(t, x, "!")
		}
	}
	answers(t, truth(0), "0")
	answers(t, truth(1), "1")
	answers(t, sign("!", truth(1)), "0")
	answers(t, two(truth(1), "==", truth(0)), "0")
}

func TestAnswerStates(t *testing.T) { // P7.2: names at the mark, and states that say less
	vars, s := someVars()
	for mark, want := range map[int]string{math.MinInt: "?", -1: "?", 0: "?", 1: "5", 9: "5", 10: "?", math.MaxInt: "?"} {
		if got := told(consts.Answer(named("x"), vars, mark, s)); got != want {
			t.Errorf("at %d: %s; want %s", mark, got, want)
		}
	}
	for _, s := range []consts.State{{}, {Reached: true}, {Known: []bool{true}}, {Nums: []int64{5}}, {Known: []bool{false, true}, Nums: []int64{5, 5}}, {Known: []bool{}, Nums: []int64{}}} {
		if got := told(consts.Answer(named("x"), vars, 4, s)); got != "?" {
			t.Errorf("%v: %s", s, got)
		}
	}
	if got := told(consts.Answer(named("z"), vars, 4, consts.State{Known: []bool{false, true}, Nums: []int64{3, 4}})); got != "4" {
		t.Errorf("the first two: %s", got)
	}
	s.Known[7] = true
	if got := told(consts.Answer(named("a"), vars, 4, s)); got != "?" {
		t.Errorf("an array: %s", got)
	}
	if got := told(consts.Answer(named("x"), nil, 4, s)); got != "?" {
		t.Errorf("no variables: %s", got)
	}
}

// helpers are procedures that bodies in the tests call.
const helpers = "proc h(){} proc f(int a) int {return a;} proc g(int a,bool b) bool {return b;}"

// program is the program of a source with the helpers behind it, and its variables.
func program(t *testing.T, s string) (api.Prog, check.Info) {
	t.Helper()
	p, at, e := syntax.Parse(s + helpers)
	if e != api.OK {
		t.Fatalf("Parse(%q): %d at %d", s, e, at)
	}
	info, place, e := check.Check(p)
	if e != api.OK {
		t.Fatalf("Check(%q): %d at %v", s, e, place)
	}
	return p, info
}

// states are what is known at each mark: - of one that is not reached, else the numbers.
func states(l []consts.State, vars []api.Var) string {
	var all []string
	for _, s := range l {
		if len(s.Known) != len(vars) || len(s.Nums) != len(vars) {
			return "a state of " + strconv.Itoa(len(s.Known)) + " and " + strconv.Itoa(len(s.Nums))
		}
		var names []string
		if !s.Reached {
			names = append(names, "-")
		}
		for i, v := range vars {
			if s.Known[i] {
				names = append(names, v.Name+"="+strconv.FormatInt(s.Nums[i], 10))
			} else if s.Nums[i] != 0 {
				names = append(names, v.Name+"?"+strconv.FormatInt(s.Nums[i], 10))
			}
		}
		all = append(all, strings.Join(names, " "))
	}
	return strings.Join(all, "|")
}

// finds asks for what is known at each mark of the first procedure.
func finds(t *testing.T, s, want string) {
	t.Helper()
	p, info := program(t, s)
	if got := states(consts.Find(p.Procs[0], info.Vars[0]), info.Vars[0]); got != want {
		t.Errorf("Find(%q):\n%s; want\n%s", s, got, want)
	}
}

func TestFind(t *testing.T) { // P7.1: each mark from 0 to n + 1
	for s, want := range map[string]string{
		"":                                      "|",
		"print 1;":                              "||",
		"var x;":                                "x=0|x=0|x=0",
		"var x;x=2;x=x+1;":                      "x=0|x=0|x=0|x=2|x=3",
		"var x;x=-3;x=x*x;":                     "x=0|x=0|x=0|x=-3|x=9",
		"var bool b;b=!b;":                      "b=0|b=0|b=0|b=1",
		"var x;read x;x=x*0;":                   "x=0|x=0|x=0||",
		"var x;x=f(3);":                         "x=0|x=0|x=0|",
		"var x;x=1;f(x);h();":                   "x=0|x=0|x=0|x=1|x=1|x=1",
		"var a[2];a[1]=1;":                      "|||",
		"var x;read x;var y;":                   "x=0 y=0|x=0 y=0|x=0 y=0|y=0|y=0",
		"var x;x=1;var y;y=x;":                  "x=0 y=0|x=0 y=0|x=0 y=0|x=1 y=0|x=1 y=0|x=1 y=1",
		"return;print 1;":                       "||-|",
		"var x;x=2;if(x<1){print x;}print x*3;": "x=0|x=0|x=0|x=2|-|x=2|x=2",
		"var x;read x;if(x<1){x=1;}else{x=1;}print x;":            "x=0|x=0|x=0||||x=1|x=1",
		"var x;read x;if(x<1){x=1;}else{x=2;}print x;":            "x=0|x=0|x=0|||||",
		"var x;var y;read x;if(x<1){y=1;}print y;":                "x=0 y=0|x=0 y=0|x=0 y=0|x=0 y=0|y=0|y=0||",
		"var x;var y;read x;if(x<1){y=0;}print y;":                "x=0 y=0|x=0 y=0|x=0 y=0|x=0 y=0|y=0|y=0|y=0|y=0",
		"var x;if(x==0){}else{print 1;}print 2;":                  "x=0|x=0|x=0|-|x=0|x=0",
		"var x;if(x==1){}else{print 1;}print 2;":                  "x=0|x=0|x=0|x=0|x=0|x=0",
		"var x;if(x==1){print 1;}else{}print 2;":                  "x=0|x=0|x=0|-|x=0|x=0",
		"while(true){}print 1;":                                   "||-|-",
		"while(false){print 1;}print 2;":                          "||-||",
		"while(true){print 1;}print 2;":                           "|||-|-",
		"while(true){return;}print 2;":                            "|||-|",
		"var x;while(x<3){x=x+1;}print x;":                        "x=0|x=0||||",
		"var x;x=1;while(x==1){print x;}print 2;":                 "x=0|x=0|x=0|x=1|x=1|-|-",
		"var x;var y;while(y<2){print x;y=y+1;}print x;":          "x=0 y=0|x=0 y=0|x=0 y=0|x=0|x=0|x=0|x=0|x=0",
		"var x;var y;while(y<2){if(x==1){y=9;x=1;}y=y+1;}":        "x=0 y=0|x=0 y=0|x=0 y=0|x=0|x=0|-|-|x=0|x=0",
		"var i;while(i<2){var y;print y;y=i;i=i+1;}":              "i=0 y=0|i=0 y=0|||y=0|y=0||",
		"var i;while(i<2){var y;y=7;i=i+1;}":                      "i=0 y=0|i=0 y=0|||y=0|y=7|",
		"print 1/0;print 2;":                                      "||-|-",
		"var x;x=1/x;print 2;":                                    "x=0|x=0|x=0|-|-",
		"var x;x=1%x;":                                            "x=0|x=0|x=0|-",
		"var x;f(1/x);print 2;":                                   "x=0|x=0|x=0|-|-",
		"var x;x=f(1/x);print 2;":                                 "x=0|x=0|x=0|-|-",
		"var bool b;b=g(1,1/0==1);print 2;":                       "b=0|b=0|b=0|-|-",
		"if(1/0==1){print 1;}else{print 2;}print 3;":              "||-|-|-|-",
		"while(1/0==1){print 1;}print 3;":                         "||-|-|-",
		"assert 1/0==1;print 1;":                                  "||-|-",
		"assert false;print 1;":                                   "||-|-",
		"assert true;print 1;":                                    "|||",
		"var x;read x;assert x==1;print x;":                       "x=0|x=0|x=0|||",
		"var a[2];a[1]=1;a[2]=1;print 1;":                         "||||-|-",
		"var a[2];a[-1]=1;print 1;":                               "|||-|-",
		"var a[2];a[0]=a[2];print 1;":                             "|||-|-",
		"var a[2];a[1/0]=1;print 1;":                              "|||-|-",
		"var a[2];a[0]=1/0;print 1;":                              "|||-|-",
		"var a[2];a[a[0]]=1;print 1;":                             "||||",
		"var x;x=9;if(true){return;x=3;}else{x=4;}print x;":       "x=0|x=0|x=0|x=9|x=9|-|-|-|x=9",
		"var x;if(x<1&&1/x==1){print 1;}print 2;":                 "x=0|x=0|x=0|-|-|-",
		"var x;if(x<0&&1/x==1){print 1;}print 2;":                 "x=0|x=0|x=0|-|x=0|x=0",
		"var x;read x;if(x<0&&1/0==1){print 1;}":                  "x=0|x=0|x=0|||",
		"var x;x=9223372036854775807;x=x+1;":                      "x=0|x=0|x=0|x=9223372036854775807|x=-9223372036854775808",
		"var x;var y;read y;while(y<1){x=1;while(y<2){x=1;}y=y;}": "x=0 y=0|x=0 y=0|x=0 y=0|x=0 y=0|||x=1|x=1|x=1|",
	} {
		finds(t, "proc main(){"+s+"}", want)
	}
}

func TestFindParams(t *testing.T) { // P7.1: of parameters nothing is known
	finds(t, "proc f0(int a,bool b) int {var x;if(b){a=x+4;}else{return a/0;}return a;}proc main(){}", "x=0|x=0|x=0|x=0|x=0|a=4 x=0|a=4 x=0")
	finds(t, "proc f0(int a){a=1;var bool b;b=a==1;while(b){b=a==2;}a=a+a;}proc main(){}", "b=0|b=0|a=1 b=0|a=1 b=0|a=1|a=1|a=1|a=2")
	finds(t, "proc f0(int a){return;}proc main(){}", "||")
}

// applies asks what an application prints of the first procedure.
func applies(t *testing.T, s, want string) {
	t.Helper()
	p, info := program(t, s)
	q := consts.Apply(p.Procs[0], info.Vars[0])
	all, e := consts.Prog(p)
	if e != api.OK || len(all.Procs) != len(p.Procs) || !same(all.Procs[0], q) {
		t.Errorf("Prog(%q) = %v, %d", s, all, e)
	}
	w, _ := program(t, want)
	got, _ := syntax.Print(api.Prog{Procs: []api.Proc{q}})
	canonical, _ := syntax.Print(api.Prog{Procs: w.Procs[:1]})
	if got != canonical {
		t.Errorf("Apply(%q) = %s; want %s", s, got, canonical)
	}
}

func TestApply(t *testing.T) { // P7.3
	for s, want := range map[string]string{
		"var x;x=2;if(x<1){print x;}print x*3;":              "var x;x=2;if(false){print x;}print 6;",
		"var x;print x;x=x-7;print x;print x+x*2;":           "var x;print 0;x=-7;print -7;print -21;",
		"var bool b;print b;b=!b;if(b){print b;}":            "var bool b;print false;b=true;if(true){print true;}",
		"var x;x=9223372036854775807;x=x+1;print x;":         "var x;x=9223372036854775807;x=-9223372036854775807-1;print -9223372036854775807-1;",
		"var x;read x;print x+(1+2);print x*1;":              "var x;read x;print x+3;print x;",
		"var x;return;print x+(1+2);":                        "var x;return;print x+(1+2);",
		"var x;var a[3];a[x+1]=x+2;print a[x];print a[1];":   "var x;var a[3];a[1]=2;print a[0];print a[1];",
		"var x;while(x<3){x=x+1;print x;}print x;":           "var x;while(x<3){x=x+1;print x;}print x;",
		"var x;while(x<0){x=x+1;print x;}print x;":           "var x;while(false){x=x+1;print x;}print 0;",
		"var x;x=f(x);x=f(x+0);f(1+1);h();":                  "var x;x=f(0);x=f(x);f(2);h();",
		"var x;var bool b;b=g(x,b);assert !b;assert x==0;":   "var x;var bool b;b=g(0,false);assert !b;assert true;",
		"var x;read x;var y;y=3;print x/y;print y/0;h();":    "var x;read x;var y;y=3;print x/3;print 3/0;h();",
		"if(1<2){print 1+1;}else{print 2+2;}print 3+3;":      "if(true){print 2;}else{print 2+2;}print 6;",
		"var x;read x;if(x<1){var y;x=y;}else{x=0;}print x;": "var x;read x;if(x<1){var y;x=0;}else{x=0;}print 0;",
	} {
		applies(t, "proc main(){"+s+"}", "proc main(){"+want+"}")
	}
	applies(t, "proc f0(int a,bool b) int {if(b){a=3;}else{a=1+2;}return a;}proc main(){}", "proc f0(int a,bool b) int {if(b){a=3;}else{a=3;}return 3;}proc main(){}")
	applies(t, "proc f0(int a) int {return a+(1+1);}proc main(){}", "proc f0(int a) int {return a+2;}proc main(){}")
}

// same tells whether two procedures print alike, and so have the same forms.
func same(p, q api.Proc) bool {
	a, e := syntax.Print(api.Prog{Procs: []api.Proc{p}})
	b, f := syntax.Print(api.Prog{Procs: []api.Proc{q}})
	return e == api.OK && f == api.OK && a == b
}

func TestProg(t *testing.T) { // P7.3: Check's errors, ahead of all else
	for s, want := range map[string]api.Errno{
		"":                             api.ErrMain,
		"proc main(){x=1;}":            api.ErrName,
		"proc main(){print 1+true;}":   api.ErrType,
		"proc main(){}proc main(){}":   api.ErrName,
		"proc main(int a){}":           api.ErrMain,
		"proc main(){}proc f() int {}": api.ErrReturn,
		"proc main(){var a[65];}":      api.ErrLong,
		"proc main(){}":                api.OK,
	} {
		p, _, _ := syntax.Parse(s)
		q, e := consts.Prog(p)
		if e != want || (e != api.OK) != (len(q.Procs) == 0) {
			t.Errorf("Prog(%q) = %v, %d; want %d", s, q, e, want)
		}
	}
	if q, e := consts.Prog(api.Prog{Procs: []api.Proc{{Name: "main", Body: []api.Stmt{{Kind: 99}}}}}); e != api.ErrForm || !reflect.DeepEqual(q, api.Prog{}) {
		t.Errorf("a statement of no kind: %v, %d", q, e)
	}
}
