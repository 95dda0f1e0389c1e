package decl_test

import (
	"slices"
	"strings"
	"testing"

	"parallax/api"
	"parallax/decl"
)

// prints asks that a file is printed as a text.
func prints(t *testing.T, f decl.File, want string) {
	t.Helper()
	if s, e := decl.Print(f); e != api.OK || s != want {
		t.Errorf("Print(%v) = %q, %d, want %q", f, s, e, want)
	}
}

// unprinted asks that a file is not printed.
func unprinted(t *testing.T, f decl.File, want api.Errno) {
	t.Helper()
	if s, e := decl.Print(f); e != want || s != "" {
		t.Errorf("Print(%.200v) = %.80q, %d, want %d", f, s, e, want)
	}
}

func TestPrint(t *testing.T) { // P12.2
	prints(t, decl.File{}, "")
	prints(t, decl.File{Pairs: []api.Pair{}, Breaks: []decl.Break{}}, "")
	prints(t, decl.File{
		Watches: []decl.Watch{{1, "w", "x"}, {0, "w", "y"}},
		Breaks:  []decl.Break{{0, "b", 0, nil}, {1, "b", 1<<63 - 1, []api.Expr{}}, {0, "b", 12, []api.Expr{two(named("x"), "==", two(whole(1), "+", whole(2)))}}},
		Keeps:   []decl.Keep{{0, "k", "x"}, {1, "k", "y"}},
		Sames:   []api.Pair{{ProcA: "s", ProcB: "t", VarA: "u", VarB: "v"}, {ProcA: "a", ProcB: "b", VarA: "c", VarB: "d"}},
		Pairs:   []api.Pair{{ProcA: "p", ProcB: "q"}, {ProcA: "pair", ProcB: "left"}},
	}, "pair p q ; pair pair left ; same s ( u ) t ( v ) ; same a ( c ) b ( d ) ; keep left k x ; keep right k y ; "+
		"break left b 0 ; break right b 9223372036854775807 ; break left b 12 when x == ( 1 + 2 ) ; watch right w x ; watch left w y ;")
	long := strings.Repeat("n", 40)
	prints(t, decl.File{Keeps: []decl.Keep{{0, long, long}}}, "keep left "+long+" "+long+" ;")
}

func TestPrintForm(t *testing.T) { // P12.2: each name, each side, marks, expressions
	for _, none := range []string{"", " ", "1", "_x", "proc", "int", "a b", "a-", "é", ";", strings.Repeat("n", 41)} {
		for _, f := range []decl.File{
			{Pairs: []api.Pair{{ProcA: none, ProcB: "g"}}},
			{Pairs: []api.Pair{{ProcA: "f", ProcB: "g"}, {ProcA: "f", ProcB: none}}},
			{Sames: []api.Pair{{ProcA: none, ProcB: "g", VarA: "x", VarB: "y"}}},
			{Sames: []api.Pair{{ProcA: "f", ProcB: none, VarA: "x", VarB: "y"}}},
			{Sames: []api.Pair{{ProcA: "f", ProcB: "g", VarA: none, VarB: "y"}}},
			{Sames: []api.Pair{{ProcA: "f", ProcB: "g", VarA: "x", VarB: none}}},
			{Keeps: []decl.Keep{{0, none, "x"}}},
			{Keeps: []decl.Keep{{0, "f", none}}},
			{Breaks: []decl.Break{{0, none, 1, nil}}},
			{Breaks: []decl.Break{{0, "f", 1, []api.Expr{named(none)}}}},
			{Watches: []decl.Watch{{1, none, "x"}}},
			{Watches: []decl.Watch{{1, "f", "x"}, {1, "f", none}}},
		} {
			unprinted(t, f, api.ErrForm)
		}
	}
	for _, side := range []int{-1, 2, 3, -1 << 63, 1<<63 - 1} {
		unprinted(t, decl.File{Keeps: []decl.Keep{{side, "f", "x"}}}, api.ErrForm)
		unprinted(t, decl.File{Breaks: []decl.Break{{side, "f", 1, nil}}}, api.ErrForm)
		unprinted(t, decl.File{Watches: []decl.Watch{{side, "f", "x"}}}, api.ErrForm)
	}
	for _, mark := range []int64{-1, -1 << 63} {
		unprinted(t, decl.File{Breaks: []decl.Break{{0, "f", mark, nil}}}, api.ErrForm)
	}
	unprinted(t, decl.File{Pairs: []api.Pair{{ProcA: "f", ProcB: "g", VarA: "x"}}}, api.ErrForm)
	unprinted(t, decl.File{Pairs: []api.Pair{{ProcA: "f", ProcB: "g", VarB: "x"}}}, api.ErrForm)
}

func TestPrintWhen(t *testing.T) { // P12.2: what PrintExpr does not take, ErrDeep too
	deep := whole(1)
	for range api.MaxDeep - 1 {
		deep = one("-", deep)
	}
	when := func(l ...api.Expr) decl.File { return decl.File{Breaks: []decl.Break{{0, "f", 1, l}}} }
	prints(t, when(deep), "break left f 1 when "+strings.Repeat("- ", api.MaxDeep-1)+"1 ;")
	unprinted(t, when(one("-", deep)), api.ErrForm)
	unprinted(t, when(whole(1), whole(1)), api.ErrForm)
	unprinted(t, when(whole(-1)), api.ErrForm)
	unprinted(t, when(api.Expr{}), api.ErrForm)
	unprinted(t, when(two(named("x"), ">", named("y"))), api.ErrForm)
	unprinted(t, when(api.Expr{Kind: api.EBool, Num: 2}), api.ErrForm)
	// A chain that is read without brackets stands in too many of them.
	f, _, e := decl.Parse("break left f 1 when x" + strings.Repeat(" + 1", 70) + " == 0 ;")
	if e != api.OK {
		t.Fatal(e)
	}
	unprinted(t, f, api.ErrForm)
}

func TestPrintTooMany(t *testing.T) { // P12.2: just forty of each kind; ErrForm first
	pair, same := api.Pair{ProcA: "f", ProcB: "g"}, api.Pair{ProcA: "f", ProcB: "g", VarA: "x", VarB: "y"}
	for kind, line := range kindLines {
		of := func(n int) decl.File {
			var f decl.File
			switch kind {
			case 0:
				f.Pairs = slices.Repeat([]api.Pair{pair}, n)
			case 1:
				f.Sames = slices.Repeat([]api.Pair{same}, n)
			case 2:
				f.Keeps = slices.Repeat([]decl.Keep{{0, "f", "x"}}, n)
			case 3:
				f.Breaks = slices.Repeat([]decl.Break{{0, "f", 1, nil}}, n)
			case 4:
				f.Watches = slices.Repeat([]decl.Watch{{1, "f", "x"}}, n)
			}
			return f
		}
		prints(t, of(40), strings.TrimSuffix(strings.Repeat(line, 40), " "))
		unprinted(t, of(41), api.ErrLong)
		unprinted(t, of(1000), api.ErrLong)
		f := of(41)
		f.Watches = append(f.Watches, decl.Watch{Side: 2, Proc: "f", Var: "x"})
		unprinted(t, f, api.ErrForm)
		f = of(41)
		f.Pairs = append(f.Pairs, api.Pair{ProcA: "f"})
		unprinted(t, f, api.ErrForm)
	}
}

func TestPrintLong(t *testing.T) { // P12.2: no length is named beyond which nothing is printed
	n := strings.Repeat("n", 40)
	var f decl.File
	for range 40 {
		f.Sames = append(f.Sames, api.Pair{ProcA: n, ProcB: n, VarA: n, VarB: n})
		f.Keeps = append(f.Keeps, decl.Keep{Proc: n, Var: n})
		f.Watches = append(f.Watches, decl.Watch{Side: 1, Proc: n, Var: n})
		f.Breaks = append(f.Breaks, decl.Break{Proc: n, When: []api.Expr{two(named(n), "==", named(n))}})
	}
	s, e := decl.Print(f)
	if e != api.OK || len(s) <= api.MaxSource {
		t.Errorf("%d bytes, %d", len(s), e)
	}
	fails(t, s, 0, api.ErrLong)
}
