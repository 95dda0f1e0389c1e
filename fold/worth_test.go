package fold_test

import (
	"math"
	"reflect"
	"testing"

	"parallax/api"
	"parallax/fold"
	"parallax/syntax"
)

func whole(n int64) api.Expr        { return api.Expr{Kind: api.EInt, Num: n} }
func truth(n int64) api.Expr        { return api.Expr{Kind: api.EBool, Num: n} }
func named(s string) api.Expr       { return api.Expr{Kind: api.EVar, Name: s} }
func list(l ...api.Expr) []api.Expr { return l }

func index(s string, x api.Expr) api.Expr {
	return api.Expr{Kind: api.EIndex, Name: s, L: list(x)}
}

func sign(s string, x api.Expr) api.Expr { return api.Expr{Kind: api.EUn, Name: s, L: list(x)} }

func two(x api.Expr, s string, y api.Expr) api.Expr {
	return api.Expr{Kind: api.EBin, Name: s, L: list(x, y)}
}

// read is the expression of a text.
func read(t *testing.T, s string) api.Expr {
	t.Helper()
	x, at, e := syntax.Expr(s)
	if e != api.OK {
		t.Fatalf("Expr(%q): %d at %d", s, e, at)
	}
	return x
}

// even shares no memory with the expression; its lists without elements are nil, so that equal ones are deeply equal.
func even(x api.Expr) api.Expr {
	var l []api.Expr
	for _, y := range x.L {
		l = append(l, even(y))
	}
	x.L = l
	return x
}

func equal(x, y api.Expr) bool { return reflect.DeepEqual(even(x), even(y)) }

const (
	most  = math.MaxInt64
	least = math.MinInt64
)

// some are values of names: x to z, arrays a and e (without elements), and names that are told twice.
func some() fold.Env {
	return fold.Env{
		Names: []string{"x", "y", "a", "z", "e", "x", "a", "lone", "late"},
		Vals:  []int64{7, -3, 55, 0, 66, 99, 98, 12},
		Lists: [][]int64{nil, nil, {10, 20, 30}, nil, {}, {1}, {2, 3, 4, 5}},
	}
}

// worthAsks asks what an expression is worth.
func worthAsks(t *testing.T, x api.Expr, env fold.Env, want int64, trap int) {
	t.Helper()
	if n, got := fold.Eval(x, env); n != want || got != trap {
		text, _ := syntax.PrintExpr(x)
		t.Errorf("Eval(%q %v) = %d, %d; want %d, %d", text, x, n, got, want, trap)
	}
}

func TestEval(t *testing.T) { // P5.1
	for s, want := range map[string]int64{
		"0": 0, "5": 5, "9223372036854775807": most, "true": 1, "false": 0,
		"x": 7, "y": -3, "z": 0, "none": 0, "a": 0, "e": 0, "lone": 12, "late": 0,
		"a[0]": 10, "a[2]": 30, "a[z+1]": 20, "a[a[0]-8]": 30,
		"-x": -7, "-y": 3, "--x": 7, "-(-9223372036854775807-1)": least,
		"!x": 0, "!z": 1, "!y": 0, "!!x": 1, "!true": 0, "!false": 1, "-true": -1,
		"x+y": 4, "x-y": 10, "x*y": -21, "x/y": -2, "x%y": 1, "y/x": 0, "y%x": -3, "-7/2": -3, "-7%2": -1,
		"9223372036854775807+1": least, "-9223372036854775807-2": most, "9223372036854775807*2": -2,
		"(-9223372036854775807-1)/(-1)": least, "(-9223372036854775807-1)%(-1)": 0,
		"x<y": 0, "y<x": 1, "x<x": 0, "x<=x": 1, "x<=y": 0, "y<=x": 1, "x==x": 1, "x==y": 0, "x!=x": 0, "x!=y": 1,
		"true==1": 1, "(-9223372036854775807-1)<9223372036854775807": 1,
		"x&&y": 1, "z&&x": 0, "x&&z": 0, "z&&z": 0, "x||z": 1, "z||y": 1, "z||z": 0, "x||y": 1,
		"z&&1/0": 0, "x||1/0": 1, "z&&a[3]": 0, "y||a[3]": 1, "1+2*3": 7, "10-3-2": 5,
	} {
		worthAsks(t, read(t, s), some(), want, 0)
	}
}

func TestEvalTraps(t *testing.T) { // P5.1: the first trap is the whole's
	for s, want := range map[string]int{
		"1/0": api.TrapZero, "1%0": api.TrapZero, "x/z": api.TrapZero, "x%(x-7)": api.TrapZero, "0/0": api.TrapZero,
		"a[3]": api.TrapIndex, "a[-1]": api.TrapIndex, "a[9223372036854775807]": api.TrapIndex, "a[4294967296]": api.TrapIndex,
		"e[0]": api.TrapIndex, "x[0]": api.TrapIndex, "none[0]": api.TrapIndex, "late[0]": api.TrapIndex, "lone[0]": api.TrapIndex,
		"a[1/0]": api.TrapZero, "x[1/0]": api.TrapZero, "a[a[3]]": api.TrapIndex,
		"-(1/0)": api.TrapZero, "!a[3]": api.TrapIndex,
		"1/0+a[3]": api.TrapZero, "a[3]+1/0": api.TrapIndex, "(1/0)/0": api.TrapZero, "a[3]/0": api.TrapIndex, "(1/0)%a[3]": api.TrapZero,
		"1/0==a[3]": api.TrapZero, "a[3]<1/0": api.TrapIndex, "1/0*0": api.TrapZero, "0*(1/0)": api.TrapZero,
		"1/0&&a[3]": api.TrapZero, "a[3]||1/0": api.TrapIndex, "x&&1/0": api.TrapZero, "z||a[3]": api.TrapIndex,
		"1/0&&false": api.TrapZero, "a[3]||true": api.TrapIndex,
	} {
		worthAsks(t, read(t, s), some(), 0, want)
	}
}

// misbuilt are expressions that are built otherwise, though most of them have parts that trap or could be folded.
func misbuilt() []api.Expr {
	x, bad, sum := named("x"), two(whole(1), "/", whole(0)), two(whole(1), "+", whole(2))
	return []api.Expr{
		{}, {Num: 5}, {Kind: -1, Num: 5}, {Kind: 7, Name: "x"}, {Kind: math.MaxInt, L: list(sum)}, {Kind: math.MinInt},
		{Kind: api.EInt, Num: 5, L: list(sum)}, {Kind: api.EInt, Num: 5, L: list(bad)},
		{Kind: api.EBool, Num: 1, L: list(sum)}, {Kind: api.EVar, Name: "x", L: list(sum)},
		{Kind: api.EIndex, Name: "a"}, {Kind: api.EIndex, Name: "a", L: list(sum, sum)},
		{Kind: api.EUn, Name: "-"}, {Kind: api.EUn, Name: "!"}, {Kind: api.EUn, Name: "-", L: list(sum, x)},
		{Kind: api.EUn, Name: "!", L: list(x, bad)},
		sign("+", x), sign("", sum), sign("--", bad), sign("&&", bad),
		{Kind: api.EBin, Name: "+"}, {Kind: api.EBin, Name: "+", L: list(sum)}, {Kind: api.EBin, Name: "+", L: list(sum, x, x)},
		{Kind: api.EBin, Name: "==", L: list(sum)}, {Kind: api.EBin, Name: "-", L: list(sum)}, {Kind: api.EBin, Name: "/", L: list(bad)},
		{Kind: api.EBin, Name: "||", L: list(whole(1), x, bad)},
		two(sum, "!", x), two(bad, "", x), two(sum, "=", bad), two(whole(1), ">", whole(0)), two(whole(1), ">=", x), two(x, "x", x),
	}
}

func TestMisbuilt(t *testing.T) { // P5.1 to P5.3: built otherwise
	for _, x := range misbuilt() {
		worthAsks(t, x, some(), 0, 0)
		worthAsks(t, two(x, "+", whole(4)), some(), 4, 0)
		worthAsks(t, two(whole(4), "/", x), some(), 0, api.TrapZero)
		worthAsks(t, sign("!", x), some(), 1, 0)
		if n, ok := fold.Const(x); n != 0 || ok {
			t.Errorf("Const(%v) = %d, %v", x, n, ok)
		}
		for _, y := range []api.Expr{x, sign("-", x), sign("!", sign("!", x)), two(truth(1), "&&", x), two(x, "||", truth(0)), two(x, "+", x)} {
			if got := fold.Expr(y); !equal(got, y) {
				t.Errorf("Expr(%v) = %v", y, got)
			}
		}
		for _, y := range []api.Expr{two(x, "+", whole(0)), two(x, "/", whole(1)), two(whole(0), "+", x), sign("-", sign("-", x))} {
			if got := fold.Expr(y); !equal(got, x) {
				t.Errorf("Expr(%v) = %v", y, got)
			}
		}
	}
}

func TestEvalOddValues(t *testing.T) { // P5.1: values that are missing, or told twice
	x, a := named("x"), index("x", whole(0))
	for _, c := range []struct {
		env    fold.Env
		number int64
		first  int64
		trap   int
	}{
		{fold.Env{}, 0, 0, api.TrapIndex},
		{fold.Env{Vals: []int64{4}, Lists: [][]int64{{4}}}, 0, 0, api.TrapIndex},
		{fold.Env{Names: []string{"x"}}, 0, 0, api.TrapIndex},
		{fold.Env{Names: []string{"x"}, Vals: []int64{4}}, 4, 0, api.TrapIndex},
		{fold.Env{Names: []string{"x"}, Vals: []int64{4, 5}, Lists: [][]int64{nil, {6}}}, 4, 0, api.TrapIndex},
		{fold.Env{Names: []string{"x"}, Vals: []int64{4}, Lists: [][]int64{{6}}}, 0, 6, 0},
		{fold.Env{Names: []string{"x"}, Lists: [][]int64{{6}}}, 0, 6, 0},
		{fold.Env{Names: []string{"x"}, Vals: []int64{4}, Lists: [][]int64{{}}}, 0, 0, api.TrapIndex},
		{fold.Env{Names: []string{"y", "x", "x"}, Vals: []int64{1, 4, 5}, Lists: [][]int64{nil, nil, {6}}}, 4, 0, api.TrapIndex},
		{fold.Env{Names: []string{"y", "x", "x"}, Vals: []int64{1, 4, 5}, Lists: [][]int64{nil, {6}}}, 0, 6, 0},
		{fold.Env{Names: []string{"y", "x"}, Vals: []int64{1}, Lists: [][]int64{{8}}}, 0, 0, api.TrapIndex},
	} {
		worthAsks(t, x, c.env, c.number, 0)
		worthAsks(t, a, c.env, c.first, c.trap)
	}
	worthAsks(t, named(""), fold.Env{Names: []string{""}, Vals: []int64{3}}, 3, 0)
	worthAsks(t, whole(-5), fold.Env{}, -5, 0)
	worthAsks(t, truth(5), fold.Env{}, 0, 0)
	worthAsks(t, truth(-1), fold.Env{}, 0, 0)
}

func TestLitAndConst(t *testing.T) { // P5.2
	for n, want := range map[int64]api.Expr{
		0: whole(0), 1: whole(1), 7: whole(7), most: whole(most),
		-1: sign("-", whole(1)), -7: sign("-", whole(7)), -most: sign("-", whole(most)),
		least: two(sign("-", whole(most)), "-", whole(1)),
	} {
		x := fold.Lit(n)
		if !equal(x, want) {
			t.Errorf("Lit(%d) = %v", n, x)
		}
		if got, ok := fold.Const(x); got != n || !ok {
			t.Errorf("Const(Lit(%d)) = %d, %v", n, got, ok)
		}
		worthAsks(t, x, fold.Env{}, n, 0)
		if got := fold.Expr(x); !equal(got, want) {
			t.Errorf("Expr(Lit(%d)) = %v", n, got)
		}
		if fold.Traps(x) {
			t.Errorf("Lit(%d) may trap", n)
		}
	}
}

func TestConst(t *testing.T) { // P5.2
	for _, c := range []struct {
		x  api.Expr
		n  int64
		ok bool
	}{
		{whole(-5), -5, true},
		{whole(least), least, true},
		{truth(1), 1, true},
		{truth(0), 0, true},
		{truth(5), 0, true},
		{named("x"), 0, false},
		{index("x", whole(1)), 0, false},
		{sign("-", whole(0)), 0, false},
		{sign("-", whole(-5)), 0, false},
		{sign("-", whole(least)), 0, false},
		{sign("-", truth(1)), 0, false},
		{sign("-", named("x")), 0, false},
		{sign("-", sign("-", whole(1))), 0, false},
		{sign("!", whole(1)), 0, false},
		{sign("!", truth(1)), 0, false},
		{two(whole(1), "+", whole(2)), 0, false},
		{two(whole(1), "-", whole(1)), 0, false},
		{two(whole(most), "-", whole(1)), 0, false},
		{two(whole(-most), "-", whole(1)), 0, false},
		{two(sign("-", whole(most)), "-", whole(2)), 0, false},
		{two(sign("-", whole(most)), "-", truth(1)), 0, false},
		{two(sign("-", whole(most)), "+", whole(1)), 0, false},
		{two(sign("-", whole(most-1)), "-", whole(1)), 0, false},
		{two(sign("!", whole(most)), "-", whole(1)), 0, false},
	} {
		if n, ok := fold.Const(c.x); n != c.n || ok != c.ok {
			t.Errorf("Const(%v) = %d, %v", c.x, n, ok)
		}
	}
}

func TestTraps(t *testing.T) { // P5.2: may it trap?
	for s, want := range map[string]bool{
		"1": false, "true": false, "x": false, "-x": false, "!x": false, "x+y*z-1": false, "x&&y||z": false, "x<y": false,
		"a[0]": true, "-a[0]": true, "1+(2*!a[x])": true, "false&&a[0]": true, "a[0]+1": true,
		"x/1": false, "x%5": false, "x/9223372036854775807": false, "x/0": true, "x%0": true, "x/y": true, "1/2/3": false,
		"x/(-1)": true, "x%(1+1)": true, "x/true": true, "(x/0)/1": true, "1/(x/1)": true, "a[1]/2": true, "!(x/y)": true,
	} {
		if got := fold.Traps(read(t, s)); got != want {
			t.Errorf("Traps(%q) = %v", s, got)
		}
	}
	for _, c := range []struct {
		x    api.Expr
		want bool
	}{
		{api.Expr{}, false},
		{two(whole(1), "/", whole(-1)), true},
		{two(whole(1), "/", whole(1)), false},
		{two(whole(1), "%", api.Expr{Kind: api.EInt, Num: 5, L: list(whole(5))}), true}, // it is worth 0
		{api.Expr{Kind: 9, L: list(whole(1), index("a", whole(0)))}, true},
		{api.Expr{Kind: api.EInt, L: list(two(whole(1), "/", whole(0)))}, true},
		{api.Expr{Kind: api.EBin, Name: "+", L: list(whole(1), whole(2), whole(3))}, false},
		{sign("/", whole(0)), false},
		{named("/"), false},
	} {
		if got := fold.Traps(c.x); got != c.want {
			t.Errorf("Traps(%v) = %v", c.x, got)
		}
	}
}
