package check_test

import (
	"math"
	"reflect"
	"testing"

	"parallax/api"
	"parallax/check"
	"parallax/sample"
)

func whole(n int64) api.Expr        { return api.Expr{Kind: api.EInt, Num: n} }
func truth(n int64) api.Expr        { return api.Expr{Kind: api.EBool, Num: n} }
func named(s string) api.Expr       { return api.Expr{Kind: api.EVar, Name: s} }
func list(l ...api.Expr) []api.Expr { return l }

func index(s string, x api.Expr) api.Expr {
	return api.Expr{Kind: api.EIndex, Name: s, L: list(x)}
}

func sign(s string, x api.Expr) api.Expr { return api.Expr{Kind: api.EUn, Name: s, L: list(x)} }

func two(x api.Expr, s string, y api.Expr) api.Expr {
	return api.Expr{Kind: api.EBin, Name: s, L: list(x, y)}
}

// mainOf is a program of one procedure, with the variables i, b and a ahead of what it is given.
func mainOf(body ...api.Stmt) api.Prog {
	l := []api.Stmt{{Kind: api.SVar, Name: "i"}, {Kind: api.SVar, Name: "b", Num: -1}, {Kind: api.SVar, Name: "a", Num: 2}}
	return api.Prog{Procs: []api.Proc{{Name: "main", Body: append(l, body...)}}}
}

func TestCheckForms(t *testing.T) { // P4.2: ErrForm, ahead of all else
	one, bad := whole(1), named("none")
	yes := truth(1)
	tell := []api.Stmt{{Kind: api.SPrint, E: list(one)}}
	for _, s := range []api.Stmt{
		{},
		{Kind: -1},
		{Kind: 11},
		{Kind: 11, Name: "none", E: list(bad)},
		{Kind: math.MaxInt},
		{Kind: api.SVar, Name: "v", Num: -2},
		{Kind: api.SVar, Name: "v", Num: math.MinInt64},
		{Kind: api.SVar, Name: "v", E: list(one)},
		{Kind: api.SVar, Name: "v", Num: 65, E: list(one)},
		{Kind: api.SVar, Name: "v", Body: tell},
		{Kind: api.SVar, Name: "v", Else: tell},
		{Kind: api.SSet, Name: "i"},
		{Kind: api.SSet, Name: "none"},
		{Kind: api.SSet, Name: "none", E: list(bad, bad)},
		{Kind: api.SSet, Name: "i", E: list(one), Body: tell},
		{Kind: api.SSet, Name: "i", E: list(one), Else: tell},
		{Kind: api.SPut, Name: "a", E: list(one)},
		{Kind: api.SPut, Name: "none", E: list(bad)},
		{Kind: api.SPut, Name: "a", E: list(one, one, one)},
		{Kind: api.SPut, Name: "a", E: list(one, one), Body: tell},
		{Kind: api.SPut, Name: "a", E: list(one, one), Else: tell},
		{Kind: api.SIf},
		{Kind: api.SIf, E: list(bad, yes)},
		{Kind: api.SWhile},
		{Kind: api.SWhile, E: list(bad, yes)},
		{Kind: api.SWhile, E: list(bad), Else: tell},
		{Kind: api.SWhile, E: list(yes), Body: tell, Else: tell},
		{Kind: api.SCall, Proc: "main", Body: tell},
		{Kind: api.SCall, Proc: "none", E: list(bad), Else: tell},
		{Kind: api.SReturn, E: list(one, one)},
		{Kind: api.SReturn, Body: tell},
		{Kind: api.SReturn, Else: tell},
		{Kind: api.SPrint},
		{Kind: api.SPrint, E: list(bad, one)},
		{Kind: api.SPrint, E: list(one), Body: tell},
		{Kind: api.SPrint, E: list(bad), Else: tell},
		{Kind: api.SRead, Name: "i", E: list(one)},
		{Kind: api.SRead, Name: "i", Body: tell},
		{Kind: api.SRead, Name: "none", Else: tell},
		{Kind: api.SAssert},
		{Kind: api.SAssert, E: list(bad, yes)},
		{Kind: api.SAssert, E: list(yes), Body: tell},
		{Kind: api.SAssert, E: list(yes), Else: tell},
	} {
		refusesProg(t, mainOf(s), 0, 4, api.ErrForm)
		refusesProg(t, mainOf(api.Stmt{Kind: api.SIf, E: list(yes), Else: []api.Stmt{s}}), 0, 5, api.ErrForm)
	}
}

func TestCheckEmptyLists(t *testing.T) { // lists without elements may be nil or empty
	none := []api.Stmt{}
	takesProg(t, mainOf(
		api.Stmt{Kind: api.SPrint, E: []api.Expr{{Kind: api.EInt, L: []api.Expr{}}}, Body: none, Else: none},
		api.Stmt{Kind: api.SRead, Name: "i", E: []api.Expr{}, Body: none, Else: none},
		api.Stmt{Kind: api.SReturn, E: []api.Expr{}},
	))
}

// Statements in a block that their kind has not are statements all the same: they have marks, and declare.
func TestCheckFormsDeclare(t *testing.T) {
	body := []api.Stmt{{Kind: api.SVar, Name: "i"}}
	refusesProg(t, mainOf(api.Stmt{Kind: api.SPrint, E: list(whole(1)), Body: body}), 0, 0, api.ErrName)
	refusesProg(t, mainOf(api.Stmt{Kind: 99, Else: body}), 0, 0, api.ErrName)
	refusesProg(t, mainOf(api.Stmt{Kind: api.SVar, Num: -9, Name: "a"}), 0, 0, api.ErrName)
	p := mainOf(api.Stmt{Kind: api.SPrint, Body: body, Else: body}).Procs[0]
	if n := check.Count(p); n != 6 {
		t.Errorf("Count: %d", n)
	}
}

// Where the promise asks for nothing, there is no error.
func TestCheckOtherFields(t *testing.T) {
	takesProg(t, mainOf(
		api.Stmt{Kind: api.SSet, Name: "i", Proc: "none", Num: -5, E: list(api.Expr{Kind: api.EInt, Name: "none"})},
		api.Stmt{Kind: api.SPrint, Name: "none", E: list(api.Expr{Kind: api.EVar, Name: "i", Num: -5})},
		api.Stmt{Kind: api.SVar, Name: "1 x"},
		api.Stmt{Kind: api.SVar, Name: ""},
		api.Stmt{Kind: api.SSet, Name: "", E: list(named("1 x"))},
	))
}

// some are variables, of which two of one name are never in scope together.
func some() []api.Var {
	return []api.Var{
		{Name: "i", Type: api.Int, From: 0, To: 9},
		{Name: "b", Type: api.Bool, From: 0, To: 9},
		{Name: "a", Type: api.Int, Size: 3, From: 0, To: 9},
		{Name: "x", Type: api.Int, From: 2, To: 4},
		{Name: "x", Type: api.Bool, From: 5, To: 5},
		{Name: "y", Type: api.Int, From: 4, To: 3},
	}
}

// typed asks for an expression's type at the mark 3.
func typed(t *testing.T, x api.Expr, want int, e api.Errno) {
	t.Helper()
	got, err := check.TypeOf(x, some(), 3)
	if got != want || err != e {
		t.Errorf("TypeOf(%v) = %d, %d; want %d, %d", x, got, err, want, e)
	}
}

func TestTypeOf(t *testing.T) { // P4.3: types
	i, b, a := named("i"), named("b"), named("a")
	typed(t, whole(0), api.Int, api.OK)
	typed(t, whole(math.MaxInt64), api.Int, api.OK)
	typed(t, truth(0), api.Bool, api.OK)
	typed(t, truth(1), api.Bool, api.OK)
	typed(t, i, api.Int, api.OK)
	typed(t, b, api.Bool, api.OK)
	typed(t, a, 0, api.ErrType)
	typed(t, named("none"), 0, api.ErrName)
	typed(t, named(""), 0, api.ErrName)
	typed(t, index("a", i), api.Int, api.OK)
	typed(t, index("a", whole(3)), api.Int, api.OK)
	typed(t, index("a", b), 0, api.ErrType)
	typed(t, index("i", i), 0, api.ErrType)
	typed(t, index("b", i), 0, api.ErrType)
	typed(t, index("none", i), 0, api.ErrName)
	for _, s := range []string{"-", "!"} {
		want := map[string][2]int{"-": {api.Int, 0}, "!": {0, api.Bool}}[s]
		for k, x := range []api.Expr{i, b} {
			typed(t, sign(s, x), want[k], map[bool]api.Errno{true: api.ErrType, false: api.OK}[want[k] == 0])
		}
	}
	for s, want := range map[string][2]int{ // of two Int, of two Bool
		"+": {api.Int, 0}, "-": {api.Int, 0}, "*": {api.Int, 0}, "/": {api.Int, 0}, "%": {api.Int, 0},
		"<": {api.Bool, 0}, "<=": {api.Bool, 0}, "==": {api.Bool, api.Bool}, "!=": {api.Bool, api.Bool},
		"&&": {0, api.Bool}, "||": {0, api.Bool},
	} {
		for k, x := range []api.Expr{i, b} {
			typed(t, two(x, s, x), want[k], map[bool]api.Errno{true: api.ErrType, false: api.OK}[want[k] == 0])
		}
		typed(t, two(i, s, b), 0, api.ErrType)
		typed(t, two(b, s, i), 0, api.ErrType)
		typed(t, two(i, s, a), 0, api.ErrType)
		typed(t, two(b, s, named("none")), 0, api.ErrName)
	}
}

func TestTypeOfForms(t *testing.T) { // P4.3: ErrForm
	i, none := named("i"), named("none")
	for _, x := range []api.Expr{
		{},
		{Kind: -1},
		{Kind: 7, L: list(none)},
		{Kind: math.MinInt},
		whole(-1),
		whole(math.MinInt64),
		truth(2),
		truth(-1),
		{Kind: api.EInt, L: list(i)},
		{Kind: api.EInt, Num: -1, L: list(none)},
		{Kind: api.EBool, L: list(i)},
		{Kind: api.EVar, Name: "i", L: list(i)},
		{Kind: api.EVar, Name: "i", L: list(none)},
		{Kind: api.EIndex, Name: "a"},
		{Kind: api.EIndex, Name: "a", L: list(i, i)},
		{Kind: api.EIndex, Name: "a", L: list(none, i)},
		{Kind: api.EUn, Name: "-"},
		{Kind: api.EUn, Name: "-", L: list(i, i)},
		{Kind: api.EUn, Name: "-", L: list(none, i)},
		{Kind: api.EUn, Name: "?", L: list(none, i)},
		{Kind: api.EBin, Name: "+"},
		{Kind: api.EBin, Name: "+", L: list(none)},
		{Kind: api.EBin, Name: "+", L: list(none, i, i)},
		sign("", i),
		sign("+", i),
		sign("--", i),
		sign("not", named("b")),
		two(i, "", i),
		two(i, "=", i),
		two(i, "!", i),
		two(i, ">", named("b")),
		two(i, "+ ", i),
		two(whole(-1), "+", none),
		two(whole(-1), "+", truth(1)),
		sign("-", truth(2)),
	} {
		typed(t, x, 0, api.ErrForm)
		typed(t, index("a", x), 0, api.ErrForm)
		typed(t, two(whole(1), "+", x), 0, api.ErrForm)
		typed(t, two(truth(1), "+", x), 0, api.ErrForm)
		typed(t, two(none, "+", x), 0, api.ErrName)
		typed(t, two(index("a", truth(1)), "+", x), 0, api.ErrType)
	}
}

func TestTypeOfOrder(t *testing.T) { // P4.3: from the left, an operand ahead of what stands over it
	none, bad, form := named("none"), sign("-", truth(1)), whole(-1)
	typed(t, two(none, "+", bad), 0, api.ErrName)
	typed(t, two(bad, "+", none), 0, api.ErrType)
	typed(t, two(form, "+", none), 0, api.ErrForm)
	typed(t, two(truth(1), "+", none), 0, api.ErrName)
	typed(t, two(truth(1), "?", none), 0, api.ErrName)
	typed(t, two(bad, "?", none), 0, api.ErrType)
	typed(t, sign("?", none), 0, api.ErrName)
	typed(t, sign("-", two(none, "==", truth(1))), 0, api.ErrName)
	typed(t, sign("?", bad), 0, api.ErrType)
	typed(t, index("none", bad), 0, api.ErrName)
	typed(t, index("none", form), 0, api.ErrName)
	typed(t, index("i", none), 0, api.ErrType)
	typed(t, index("i", form), 0, api.ErrType)
	typed(t, index("a", none), 0, api.ErrName)
	typed(t, index("a", form), 0, api.ErrForm)
	typed(t, two(two(whole(1), "+", truth(1)), "+", none), 0, api.ErrType)
	typed(t, two(whole(1), "+", two(truth(1), "+", none)), 0, api.ErrName)
}

func TestFind(t *testing.T) { // P4.3
	for _, c := range []struct {
		name string
		mark int
		want int
	}{
		{"i", 0, 0}, {"i", 9, 0}, {"i", 10, -1}, {"i", -1, -1}, {"b", 3, 1}, {"a", 3, 2},
		{"x", 1, -1}, {"x", 2, 3}, {"x", 4, 3}, {"x", 5, 4}, {"x", 6, -1},
		{"y", 3, -1}, {"y", 4, -1}, {"none", 3, -1}, {"", 3, -1}, {"I", 3, -1},
		{"i", math.MaxInt, -1}, {"i", math.MinInt, -1},
	} {
		if got := check.Find(some(), c.name, c.mark); got != c.want {
			t.Errorf("Find(%q, %d) = %d; want %d", c.name, c.mark, got, c.want)
		}
	}
	if got := check.Find(nil, "x", 0); got != -1 {
		t.Errorf("Find of none: %d", got)
	}
	twice := []api.Var{{Name: "z", From: 3, To: 4}, {Name: "x", To: 9}, {Name: "x", To: 9}}
	if got := check.Find(twice, "x", 3); got != 1 {
		t.Errorf("Find of two: %d", got)
	}
}

func TestTypeOfMarks(t *testing.T) { // P4.3: names are found at the mark
	for mark, want := range map[int]int{1: 0, 2: api.Int, 4: api.Int, 5: api.Bool, 6: 0, math.MinInt: 0, math.MaxInt: 0} {
		got, e := check.TypeOf(named("x"), some(), mark)
		if got != want || (e == api.OK) != (want != 0) || e != api.OK && e != api.ErrName {
			t.Errorf("TypeOf at %d: %d, %d", mark, got, e)
		}
	}
}

const nested = "proc main(){print 1;if(true){print 2;while(true){print 3;}print 4;}else{if(true){}else{print 5;}print 6;}print 7;}"

func TestStmtCount(t *testing.T) { // P4.4
	p := parsed(t, nested).Procs[0]
	if n := check.Count(p); n != 10 {
		t.Errorf("Count = %d", n)
	}
	kinds := []int{api.SPrint, api.SIf, api.SPrint, api.SWhile, api.SPrint, api.SPrint, api.SIf, api.SPrint, api.SPrint, api.SPrint}
	tells := map[int]int64{1: 1, 3: 2, 5: 3, 6: 4, 8: 5, 9: 6, 10: 7}
	for i, kind := range kinds {
		s, ok := check.Stmt(p, i+1)
		if s.Kind != kind || !ok || kind == api.SPrint && s.E[0].Num != tells[i+1] {
			t.Errorf("Stmt(%d) = %v, %v", i+1, s, ok)
		}
	}
	if s, _ := check.Stmt(p, 2); !reflect.DeepEqual(sample.CopyStmts(s), sample.CopyStmts(p.Body[1])) {
		t.Errorf("Stmt(2) = %v", s)
	}
	for _, mark := range []int{0, 11, 12, -1, math.MaxInt, math.MinInt} {
		if s, ok := check.Stmt(p, mark); !reflect.DeepEqual(s, api.Stmt{}) || ok {
			t.Errorf("Stmt(%d) = %v, %v", mark, s, ok)
		}
	}
	for _, mark := range []int{0, 1} {
		if s, ok := check.Stmt(api.Proc{}, mark); !reflect.DeepEqual(s, api.Stmt{}) || ok {
			t.Errorf("Stmt(%d) of none = %v, %v", mark, s, ok)
		}
	}
	if n := check.Count(api.Proc{Params: []api.Param{{Name: "a", Type: api.Int}}}); n != 0 {
		t.Errorf("Count of none = %d", n)
	}
}

func TestScopes(t *testing.T) { // P4.1, Words
	info := takes(t, "proc f(int a,bool b){var x;if(b){var y[3];print 1;while(b){var bool z;}}else{print 2;var u;}print 3;} proc main(){} proc g(int a){var v[64];var w;}")
	want := check.Info{
		Vars: [][]api.Var{
			{
				{Name: "a", Type: api.Int, From: 0, To: 10},
				{Name: "b", Type: api.Bool, From: 0, To: 10},
				{Name: "x", Type: api.Int, From: 2, To: 9},
				{Name: "y", Type: api.Int, Size: 3, From: 4, To: 6},
				{Name: "z", Type: api.Bool, From: 7, To: 6},
				{Name: "u", Type: api.Int, From: 9, To: 8},
			},
			nil,
			{
				{Name: "a", Type: api.Int, From: 0, To: 3},
				{Name: "v", Type: api.Int, Size: 64, From: 2, To: 2},
				{Name: "w", Type: api.Int, From: 3, To: 2},
			},
		},
		Marks: []int{9, 0, 2},
	}
	if !same(info, want) {
		t.Errorf("%v; want %v", info, want)
	}
}

func TestScopesUsed(t *testing.T) { // P4.2: a name where it is in scope, and where it is not
	takes(t, "proc main(){var x;while(x<1){if(x<2){x=3;}else{print x;}}print x;}")
	takes(t, "proc main(){while(true){var x;if(true){x=1;}read x;}}")
	refuses(t, "proc main(){x=1;var x;}", 0, 1, api.ErrName)
	refuses(t, "proc main(){while(true){print x;var x;}}", 0, 2, api.ErrName)
	refuses(t, "proc main(){if(true){var x;}else{x=1;}}", 0, 3, api.ErrName)
	refuses(t, "proc main(){if(true){if(true){var x;}print x;}}", 0, 4, api.ErrName)
	refuses(t, "proc main(){var x;} proc f(){print x;}", 1, 1, api.ErrName)
	refuses(t, "proc main(){var x;x=true;}", 0, 2, api.ErrType)         // the chapter's
	refuses(t, "proc main(){if(true){var x;} x=1;}", 0, 3, api.ErrName) // examples
}
