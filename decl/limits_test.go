package decl_test

import (
	"strconv"
	"strings"
	"testing"

	"parallax/api"
	"parallax/decl"
)

func TestManyItems(t *testing.T) { // P1: files of more items than any text has
	l := source(t, leftSource)
	var f decl.File
	for i := range 200000 {
		name := "n" + strconv.Itoa(i)
		f.Sames = append(f.Sames, api.Pair{ProcA: "main", ProcB: "main", VarA: name, VarB: name})
		f.Keeps = append(f.Keeps, decl.Keep{Proc: "f", Var: name})
		f.Watches = append(f.Watches, decl.Watch{Proc: "main", Var: name})
		f.Breaks = append(f.Breaks, decl.Break{Proc: "f", Mark: 1, When: []api.Expr{named(name)}})
	}
	if n := len(decl.Kept(f, 0)); n != 400000 {
		t.Errorf("%d kept", n)
	}
	if e := decl.Clear(f, 0, l); e != api.OK {
		t.Error(e)
	}
	f.Watches = append(f.Watches, decl.Watch{Proc: "main", Var: "x"})
	if e := decl.Clear(f, 0, l); e != api.ErrWatch {
		t.Error(e)
	}
	if at, e := decl.Check(f, l, l); e != api.ErrPair || at != (decl.Spot{Kind: aSame}) {
		t.Error(at, e)
	}
	unprinted(t, f, api.ErrLong)
	f = decl.File{}
	for range 200000 {
		f.Keeps = append(f.Keeps, decl.Keep{Proc: "main", Var: "y"})
		f.Pairs = append(f.Pairs, api.Pair{ProcA: "main", ProcB: "main"})
	}
	keep(t, f, 0, decl.Kept(f, 0)[0])
	if at, e := decl.Check(f, l, l); e != api.ErrPair || at != (decl.Spot{Kind: aPair, Index: 1}) {
		t.Error(at, e)
	}
	f.Pairs = nil
	if at, e := decl.Check(f, l, l); e != api.OK {
		t.Error(at, e)
	}
}

func TestDeepWhen(t *testing.T) { // P1: as many parts in one another as are promised
	l := source(t, leftSource)
	not, sum := named("c"), named("n")
	for range 1<<16 - 2 {
		not = one("!", not)
		sum = two(sum, "+", whole(1))
	}
	for _, c := range []struct {
		x    api.Expr
		want api.Errno
	}{{not, api.OK}, {two(sum, "==", whole(0)), api.OK}, {sum, api.ErrType}} {
		f := decl.File{Breaks: []decl.Break{{Proc: "f", Mark: 1, When: []api.Expr{c.x}}}}
		if _, e := decl.Check(f, l, l); e != c.want {
			t.Error(e, c.want)
		}
		if e := decl.Clear(f, 0, l); e != api.ErrWatch {
			t.Error(e)
		}
		f.Keeps = []decl.Keep{{Proc: "f", Var: "c"}, {Proc: "f", Var: "n"}}
		if e := decl.Clear(f, 0, l); e != api.OK {
			t.Error(e)
		}
		unprinted(t, f, api.ErrForm)
	}
}

func TestLongTexts(t *testing.T) { // P1, P12.1: texts as long as may be
	line := "break left f 1 when x ; "
	n := (api.MaxTokens - 1) / 7
	fails(t, strings.Repeat(line, n), 40*len(line), api.ErrLong)
	fails(t, strings.Repeat(line, n)+"x", n*len(line), api.ErrSyntax)
	fails(t, "break left f 1 when "+strings.Repeat("(", 3000), 20+60, api.ErrDeep)
	f := file(t, "break left f 1 when "+strings.Repeat("x + ", 1500)+"x == 0 ;")
	if len(f.Breaks) != 1 {
		t.Error(len(f.Breaks))
	}
}
