package gen_test

import (
	"reflect"
	"slices"
	"strings"
	"testing"

	"parallax/api"
	"parallax/check"
	"parallax/code"
	"parallax/fold"
	"parallax/gen"
	"parallax/lex"
)

// mainOf is a program of main alone.
func mainOf(l ...api.Stmt) api.Prog { return api.Prog{Procs: []api.Proc{{Name: "main", Body: l}}} }

func whole(n int64) api.Expr { return api.Expr{Kind: api.EInt, Num: n} }

func named(s string) api.Expr { return api.Expr{Kind: api.EVar, Name: s} }

func two(x api.Expr, sign string, y api.Expr) api.Expr {
	return api.Expr{Kind: api.EBin, Name: sign, L: []api.Expr{x, y}}
}

func says(x api.Expr) api.Stmt { return api.Stmt{Kind: api.SPrint, E: []api.Expr{x}} }

// tooLong asks that a program has no build for its length.
func tooLong(t *testing.T, p api.Prog, plain bool) {
	t.Helper()
	if b, at, e := gen.Compile(p, nil, plain); e != api.ErrLong || at != (check.Place{}) || !reflect.DeepEqual(b, gen.Build{}) {
		t.Errorf("plain %v: %v, %d", plain, at, e)
	}
}

func TestTooLong(t *testing.T) { // P11.1: just MaxCode instructions are allowed
	say, call := says(whole(1)), api.Stmt{Kind: api.SCall, Proc: "main"}
	for _, plain := range []bool{true, false} {
		tooLong(t, mainOf(slices.Repeat([]api.Stmt{say}, 1<<16)...), plain) // as many marks, and more
		tooLong(t, mainOf(slices.Repeat([]api.Stmt{say}, 1<<17)...), plain)
		tooLong(t, mainOf(slices.Repeat([]api.Stmt{say}, 21845)...), plain)
		p := mainOf(append(slices.Repeat([]api.Stmt{say}, 21843), call, call)...) // 2^16 in all: three a print, two a call, and three more
		if b := build(t, p, nil, plain); len(b.Codes[0].Ins) != api.MaxCode {
			t.Errorf("plain %v: %d instructions", plain, len(b.Codes[0].Ins))
		}
		p.Procs[0].Body = append(p.Procs[0].Body, call)
		tooLong(t, p, plain)
		other := api.Proc{Name: "f", Body: p.Procs[0].Body}
		tooLong(t, api.Prog{Procs: []api.Proc{{Name: "main"}, other}}, plain)
		tooLong(t, mainOf(says(tower(1<<15, "+", func(i int) api.Expr { return two(whole(1), "/", whole(0)) }))), plain)
	}
	wrong := mainOf(append(slices.Repeat([]api.Stmt{say}, 1<<16), says(named("x")))...)
	if _, at, e := gen.Compile(wrong, nil, true); e != api.ErrName || at != (check.Place{Proc: 0, Mark: 1<<16 + 1}) { // Check's error is first
		t.Errorf("%v, %d", at, e)
	}
}

// tower is an expression of so many signs, each one in the right part of the one ahead of it.
func tower(n int, sign string, leaf func(i int) api.Expr) api.Expr {
	x := leaf(n)
	for i := n - 1; i >= 0; i-- {
		x = two(leaf(i), sign, x)
	}
	return x
}

// goesAsWritten asks that a program's builds tick as the program does.
func goesAsWritten(t *testing.T, name string, p api.Prog, input ...int64) {
	t.Helper()
	h, e := fold.Run(p, input, 100)
	if e != api.OK {
		t.Fatalf("%s: Run: %d", name, e)
	}
	for _, plain := range []bool{true, false} {
		b := build(t, p, nil, plain)
		m := start(t, b, input, 100)
		for m.Step() {
		}
		if m.Ticks() != len(h.Pos) || !slices.Equal(m.Events(), h.Events) {
			t.Errorf("%s, plain %v: %d ticks, %s; want %d, %s", name, plain, m.Ticks(), seen(m.Events()), len(h.Pos), seen(h.Events))
		}
	}
}

func TestTowers(t *testing.T) { // P11.6, P11.2: what stands deep in one another, beyond what a stack may hold
	reads := []api.Stmt{{Kind: api.SVar, Name: "x"}, {Kind: api.SRead, Name: "x"}, {Kind: api.SVar, Name: "b", Num: -1}, {Kind: api.SVar, Name: "a", Num: 3}}
	x := func(i int) api.Expr { return two(named("x"), "*", whole(int64(i%7))) }
	bare := func(int) api.Expr { return named("x") }
	holds := func(int) api.Expr { return named("b") }
	for name, e := range map[string]api.Expr{
		"-, as high as may be": tower(4000, "-", bare),
		"-, a little higher":   tower(4200, "-", bare),
		"-, high":              tower(7000, "-", x),
		"+, high":              tower(7000, "+", x),
		"traps":                two(tower(5000, "-", bare), "/", whole(0)),
		"traps within":         tower(6000, "+", func(i int) api.Expr { return two(whole(1), "%", two(whole(5990), "-", whole(int64(i)))) }),
		"&&, high":             tower(9000, "&&", holds),
		"||, high":             tower(9000, "||", holds),
		"of both":              two(tower(4100, "-", bare), "<", tower(5000, "-", bare)),
		"of a choice":          two(two(tower(6000, "-", bare), "<", whole(3)), "&&", two(whole(3), "!=", tower(6000, "+", bare))),
	} {
		goesAsWritten(t, name, mainOf(append(slices.Clone(reads), says(e))...), 5)
	}
	e := tower(6500, "-", x)
	cell := two(e, "%", whole(1))
	goesAsWritten(t, "a put", mainOf(append(slices.Clone(reads), api.Stmt{Kind: api.SPut, Name: "a", E: []api.Expr{cell, tower(4500, "+", bare)}}, says(api.Expr{Kind: api.EIndex, Name: "a", L: []api.Expr{whole(0)}}))...), 5)
	f := api.Proc{Name: "f", Type: api.Int, Params: []api.Param{{Name: "p", Type: api.Int}, {Name: "q", Type: api.Int}}, Body: []api.Stmt{{Kind: api.SReturn, E: []api.Expr{two(named("p"), "-", tower(4500, "-", func(int) api.Expr { return named("q") }))}}}}
	p := mainOf(append(slices.Clone(reads), api.Stmt{Kind: api.SCall, Name: "x", Proc: "f", E: []api.Expr{tower(5000, "-", bare), tower(4990, "+", bare)}}, says(named("x")))...)
	p.Procs = append(p.Procs, f)
	goesAsWritten(t, "a call", p, 5)
}

func TestTowersAnswer(t *testing.T) { // P11.8: cells that are lent to a tower are no answer
	p := mainOf(api.Stmt{Kind: api.SCall, Proc: "f", E: []api.Expr{whole(5)}})
	x := func(int) api.Expr { return named("p") }
	p.Procs = append(p.Procs, api.Proc{Name: "f", Params: []api.Param{{Name: "p", Type: api.Int}}, Body: []api.Stmt{says(tower(4200, "-", x))}})
	for _, plain := range []bool{true, false} {
		b := build(t, p, nil, plain)
		m := at(t, b, nil, 5)
		if tick, _ := m.Tick(); tick.Kind != api.MLeave || b.Codes[1].Cells <= b.Tables[1].Size {
			t.Errorf("plain %v: %v, %d cells", plain, tick, b.Codes[1].Cells)
		}
		if n, e := gen.Answer(b, m, 1); n != 0 || e != api.ErrGone {
			t.Errorf("plain %v: Answer = %d, %d", plain, n, e)
		}
	}
}

func TestDeepForms(t *testing.T) { // P1, P11.2: as many parts in one another as are promised
	minus, element, sum := whole(3), whole(0), whole(1)
	for range 16000 {
		minus = api.Expr{Kind: api.EUn, Name: "-", L: []api.Expr{minus}}
		element = api.Expr{Kind: api.EIndex, Name: "a", L: []api.Expr{element}}
		sum = two(sum, "+", whole(1))
	}
	goesAsWritten(t, "signs and sums", mainOf(api.Stmt{Kind: api.SVar, Name: "a", Num: 2}, says(minus), says(element), says(sum)))
	nest := says(whole(7))
	for range 6000 {
		nest = api.Stmt{Kind: api.SIf, E: []api.Expr{{Kind: api.EVar, Name: "b"}}, Else: []api.Stmt{nest}}
		nest = api.Stmt{Kind: api.SWhile, E: []api.Expr{{Kind: api.EUn, Name: "!", L: []api.Expr{named("b")}}}, Body: []api.Stmt{nest}}
	}
	goesAsWritten(t, "blocks", mainOf(api.Stmt{Kind: api.SVar, Name: "b", Num: -1}, nest))
	for _, plain := range []bool{true, false} {
		x := whole(1)
		for range 1<<16 - 1 {
			x = api.Expr{Kind: api.EBin, Name: "-", L: []api.Expr{whole(2), x}}
		}
		if b, _, e := gen.Compile(mainOf(says(x)), nil, plain); e == api.OK && !code.Sound(b.Codes, b.Main) || e != api.OK && e != api.ErrLong {
			t.Errorf("plain %v: %d", plain, e)
		}
	}
}

func TestOddTypes(t *testing.T) { // P11.6: parameters of a type that no value has, which check takes
	p := mainOf()
	p.Procs = append(p.Procs,
		api.Proc{Name: "f", Params: []api.Param{{Name: "p"}, {Name: "q", Type: 7}}, Body: []api.Stmt{
			{Kind: api.SCall, Name: "p", Proc: "main"}, {Kind: api.SCall, Name: "q", Proc: "g", E: []api.Expr{named("q")}}, {Kind: api.SSet, Name: "p", E: []api.Expr{named("p")}},
			{Kind: api.SCall, Proc: "f", E: []api.Expr{named("p"), named("q")}}, says(two(named("q"), "==", named("q")))}},
		api.Proc{Name: "g", Type: 7, Params: []api.Param{{Name: "q", Type: 7}}, Body: []api.Stmt{{Kind: api.SReturn, E: []api.Expr{named("q")}}}})
	goesAsWritten(t, "odd types", p)
}

// tokens is how many there are in a text.
func tokens(t *testing.T, s string) int {
	t.Helper()
	l, _, e := lex.Scan(s)
	if e != api.OK {
		t.Fatalf("%q: %d", s, e)
	}
	return len(l) - 1
}

func TestLongSources(t *testing.T) { // P11.4
	ahead := "proc f()int{return 1;} proc main(){var x;var bool b;var a[9];"
	for _, piece := range []string{"x=-x;", "f();", "x=x;", "if(b){}", "while(b){}", "b=b||b;", "b=!b;", "x=x%x;", "a[x]=x;", "return;", "read x;", "if(b){}else{}", "b=x!=x;", "x=f();", "print 1;",
		"b=b||b||b||b||b||b;", "print b&&b;", "if(b||b){f();}else{f();}", "assert b;", "while(b){while(b){x=x;}}"} {
		n := min((api.MaxSource-len(ahead)-1)/len(piece), (api.MaxTokens-tokens(t, ahead)-2)/tokens(t, piece))
		p := program(t, ahead+strings.Repeat(piece, n)+"}")
		for _, plain := range []bool{true, false} {
			build(t, p, nil, plain)
		}
	}
	for _, s := range []string{
		"b=" + strings.Repeat("b||", 1900) + "b;",
		strings.Repeat("while(!b){", 57) + "b=!b;" + strings.Repeat("}", 57),
		"x=" + strings.Repeat("(1-", 58) + "x" + strings.Repeat(")", 58) + ";",
		"x=" + strings.Repeat("-", 58) + "x;",
		"a[" + strings.Repeat("a[", 57) + "1" + strings.Repeat("]", 57) + "]=1;",
		"b=" + strings.Repeat("(b||b&&!b==", 29) + "b" + strings.Repeat(")", 29) + ";",
	} {
		p := program(t, "proc main(){var x;var bool b;var a[64];"+s+"}")
		for _, plain := range []bool{true, false} {
			build(t, p, nil, plain)
		}
	}
}
