package decl_test

import (
	"math"
	"reflect"
	"strings"
	"testing"

	"parallax/api"
	"parallax/decl"
)

func whole(n int64) api.Expr { return api.Expr{Kind: api.EInt, Num: n} }

func named(s string) api.Expr { return api.Expr{Kind: api.EVar, Name: s} }

func element(s string, x api.Expr) api.Expr {
	return api.Expr{Kind: api.EIndex, Name: s, L: []api.Expr{x}}
}

func one(sign string, x api.Expr) api.Expr {
	return api.Expr{Kind: api.EUn, Name: sign, L: []api.Expr{x}}
}

func two(x api.Expr, sign string, y api.Expr) api.Expr {
	return api.Expr{Kind: api.EBin, Name: sign, L: []api.Expr{x, y}}
}

// alike tells whether two files are the same; lists without elements are.
func alike(f, g decl.File) bool { return reflect.DeepEqual(filled(f), filled(g)) }

// filled is a file without nil lists.
func filled(f decl.File) decl.File {
	f.Pairs, f.Sames = append([]api.Pair{}, f.Pairs...), append([]api.Pair{}, f.Sames...)
	f.Keeps, f.Watches = append([]decl.Keep{}, f.Keeps...), append([]decl.Watch{}, f.Watches...)
	f.Breaks = append([]decl.Break{}, f.Breaks...)
	for i, b := range f.Breaks {
		f.Breaks[i].When = append([]api.Expr{}, b.When...)
	}
	return f
}

// reads asks that a text is read as a file.
func reads(t *testing.T, s string, want decl.File) {
	t.Helper()
	f, at, e := decl.Parse(s)
	if e != api.OK || at != 0 || !alike(f, want) {
		t.Errorf("Parse(%q) = %v, %d, %d, want %v", s, f, at, e, want)
	}
}

// fails asks that a text is not read, there; and has no places.
func fails(t *testing.T, s string, at int, want api.Errno) {
	t.Helper()
	f, place, e := decl.Parse(s)
	if e != want || place != at || !reflect.DeepEqual(f, decl.File{}) {
		t.Errorf("Parse(%.80q) = %v, %d, %d, want %d, %d", s, f, place, e, at, want)
	}
	if l, ok := decl.Places(s); ok || !reflect.DeepEqual(l, [5][]int{}) {
		t.Errorf("Places(%.80q) = %v, %v", s, l, ok)
	}
}

func TestParse(t *testing.T) { // P12.1
	reads(t, "", decl.File{})
	reads(t, " # nothing\n ", decl.File{})
	reads(t, "pair f g ;", decl.File{Pairs: []api.Pair{{ProcA: "f", ProcB: "g"}}})
	reads(t, "same f ( x ) g ( y ) ;", decl.File{Sames: []api.Pair{{ProcA: "f", ProcB: "g", VarA: "x", VarB: "y"}}})
	reads(t, "keep left f x ; keep right g y ;", decl.File{Keeps: []decl.Keep{{0, "f", "x"}, {1, "g", "y"}}})
	reads(t, "watch right f x ; watch left g y ;", decl.File{Watches: []decl.Watch{{1, "f", "x"}, {0, "g", "y"}}})
	reads(t, "break left f 0 ; break right g 9223372036854775807 ;", decl.File{Breaks: []decl.Break{{0, "f", 0, nil}, {1, "g", math.MaxInt64, nil}}})
	reads(t, "break right f 3 when x ;", decl.File{Breaks: []decl.Break{{1, "f", 3, []api.Expr{named("x")}}}})
	reads(t, "pair f g ; same f ( x ) g ( y ) ; break left f 2 when x < 3 ;", decl.File{
		Pairs:  []api.Pair{{ProcA: "f", ProcB: "g"}},
		Sames:  []api.Pair{{ProcA: "f", ProcB: "g", VarA: "x", VarB: "y"}},
		Breaks: []decl.Break{{0, "f", 2, []api.Expr{two(named("x"), "<", whole(3))}}},
	})
}

func TestParseAnyOrder(t *testing.T) { // P12.1: lines of each kind in order, however kinds are mixed
	reads(t, "watch left a b;pair p q;watch right c d;same p(x)q(y);pair r s;#;\nbreak left p 1;same r(x)s(y);break left p 1;keep left f x;keep left f x;", decl.File{
		Pairs:   []api.Pair{{ProcA: "p", ProcB: "q"}, {ProcA: "r", ProcB: "s"}},
		Sames:   []api.Pair{{ProcA: "p", ProcB: "q", VarA: "x", VarB: "y"}, {ProcA: "r", ProcB: "s", VarA: "x", VarB: "y"}},
		Keeps:   []decl.Keep{{0, "f", "x"}, {0, "f", "x"}},
		Breaks:  []decl.Break{{0, "p", 1, nil}, {0, "p", 1, nil}},
		Watches: []decl.Watch{{0, "a", "b"}, {1, "c", "d"}},
	})
}

func TestParseWordsAsNames(t *testing.T) { // P12.1: first words, sides and when are names like others
	reads(t, "pair pair same ; keep left left left ; watch right watch right ; same when ( keep ) break ( break ) ;", decl.File{
		Pairs:   []api.Pair{{ProcA: "pair", ProcB: "same"}},
		Sames:   []api.Pair{{ProcA: "when", ProcB: "break", VarA: "keep", VarB: "break"}},
		Keeps:   []decl.Keep{{0, "left", "left"}},
		Watches: []decl.Watch{{1, "watch", "right"}},
	})
	reads(t, "break left when 1 when when ; break right right 0 when left < when ;", decl.File{Breaks: []decl.Break{
		{0, "when", 1, []api.Expr{named("when")}},
		{1, "right", 0, []api.Expr{two(named("left"), "<", named("when"))}},
	}})
}

func TestParseWhen(t *testing.T) { // P12.1: an expression of layer 3
	reads(t, "break left f 2 when ! ( a [ i + 1 ] == 2 * x ) || b && true;pair f g;", decl.File{
		Pairs: []api.Pair{{ProcA: "f", ProcB: "g"}},
		Breaks: []decl.Break{{0, "f", 2, []api.Expr{two(
			one("!", two(element("a", two(named("i"), "+", whole(1))), "==", two(whole(2), "*", named("x")))), "||",
			two(named("b"), "&&", api.Expr{Kind: api.EBool, Num: 1}),
		)}}},
	})
	fails(t, "break left f 2 when ;", 20, api.ErrSyntax)
	fails(t, "break left f 2 when", 19, api.ErrSyntax)
	fails(t, "break left f 2 when x", 21, api.ErrSyntax)
	fails(t, "break left f 2 when x + ;", 24, api.ErrSyntax)
	fails(t, "break left f 2 when x y ;", 22, api.ErrSyntax)
	fails(t, "break left f 2 when x ( ;", 22, api.ErrSyntax)
	fails(t, "break left f 2 when x < 3 < 4 ;", 26, api.ErrSyntax)
	fails(t, "break left f 2 when ( x ;", 24, api.ErrSyntax)
	fails(t, "break left f 2 when x ) ;", 22, api.ErrSyntax)
	fails(t, "break left f 2 when x when y ;", 22, api.ErrSyntax)
}

func TestParseWhenDeep(t *testing.T) { // P12.1: ReadExpr's error and place
	in := func(n int) string { return "break left f 2 when " + strings.Repeat("!", n) + "x ;" }
	deep := named("x")
	for range api.MaxDeep - 1 {
		deep = one("!", deep)
	}
	reads(t, in(api.MaxDeep-1), decl.File{Breaks: []decl.Break{{0, "f", 2, []api.Expr{deep}}}})
	fails(t, in(api.MaxDeep), 20+api.MaxDeep, api.ErrDeep)
	fails(t, in(api.MaxDeep+5), 20+api.MaxDeep, api.ErrDeep)
	fails(t, "break left f 2 when ) "+in(api.MaxDeep), 20, api.ErrSyntax)
	fails(t, in(api.MaxDeep)+" pair ;", 20+api.MaxDeep, api.ErrDeep)
}

func TestParseSyntax(t *testing.T) { // P12.1: the first token with which no file can go on
	fails(t, "pair f ;", 7, api.ErrSyntax)
	fails(t, ";", 0, api.ErrSyntax)
	fails(t, "  x", 2, api.ErrSyntax)
	fails(t, "pair f g ; ;", 11, api.ErrSyntax)
	fails(t, "Pair f g ;", 0, api.ErrSyntax)
	fails(t, "pairs f g ;", 0, api.ErrSyntax)
	fails(t, "keep both f x ;", 5, api.ErrSyntax)
	fails(t, "keep Left f x ;", 5, api.ErrSyntax)
	fails(t, "break left f -1 ;", 13, api.ErrSyntax)
	fails(t, "break left f x ;", 13, api.ErrSyntax)
	fails(t, "break left f 1 if x ;", 15, api.ErrSyntax)
	fails(t, "break left f 1 2 ;", 15, api.ErrSyntax)
	fails(t, "pair f g ; 1", 11, api.ErrSyntax)
	fails(t, "left f g ;", 0, api.ErrSyntax)
	fails(t, "pair f , g ;", 7, api.ErrSyntax)
	fails(t, "same f x g y ;", 7, api.ErrSyntax)
	fails(t, "same f [ x ] g [ y ] ;", 7, api.ErrSyntax)
	fails(t, "pair f int ;", 7, api.ErrSyntax)
	// The first one counts, whatever follows.
	fails(t, "pair f ; keep ; watch", 7, api.ErrSyntax)
}

func TestParseEachTokenWrong(t *testing.T) { // P12.1: each token of each line, cut off or changed
	for _, line := range []string{
		"pair f g ;", "same f ( x ) g ( y ) ;", "keep left f x ;", "keep right f x ;",
		"break left f 2 ;", "break right f 2 when x ;", "watch left f x ;", "watch right f x ;",
	} {
		words := strings.Split(line, " ")
		for i := range words {
			ahead := strings.Join(words[:i], " ")
			if i > 0 {
				fails(t, ahead, len(ahead), api.ErrSyntax)
				ahead += " "
			}
			for _, wrong := range []string{"}", "var", "]", "proc", "="} {
				fails(t, ahead+wrong+" "+strings.Join(words[i+1:], " "), len(ahead), api.ErrSyntax)
			}
		}
	}
}

func TestParseScan(t *testing.T) { // P12.1: Scan's error and place come first
	fails(t, "pair f g ; @", 11, api.ErrToken)
	fails(t, "pair ; 01", 7, api.ErrToken)
	fails(t, "pair f "+strings.Repeat("g", 41)+" ;", 7, api.ErrToken)
	fails(t, "break left f 9223372036854775808 ;", 13, api.ErrToken)
	fails(t, "pair f g ;"+strings.Repeat(" ", api.MaxSource-9), 0, api.ErrLong)
	reads(t, "pair f g ;"+strings.Repeat(" ", api.MaxSource-10), decl.File{Pairs: []api.Pair{{ProcA: "f", ProcB: "g"}}})
	fails(t, strings.Repeat("; ", api.MaxTokens), 2*api.MaxTokens, api.ErrLong)
	fails(t, strings.Repeat("; ", api.MaxTokens-1), 0, api.ErrSyntax)
}

// kindLines are a line of each kind, in the order of kinds.
var kindLines = [5]string{"pair f g ; ", "same f ( x ) g ( y ) ; ", "keep left f x ; ", "break left f 1 ; ", "watch right f x ; "}

func TestParseTooMany(t *testing.T) { // P12.1: just forty of each kind
	for kind, line := range kindLines {
		forty := strings.Repeat(line, 40)
		f, _, e := decl.Parse(forty)
		got := [5]int{len(f.Pairs), len(f.Sames), len(f.Keeps), len(f.Breaks), len(f.Watches)}
		want := [5]int{}
		want[kind] = 40
		if e != api.OK || got != want {
			t.Errorf("forty times %q: %v, %d", line, got, e)
		}
		fails(t, forty+line, len(forty), api.ErrLong)
		fails(t, forty+"# more\n"+line+line, len(forty)+7, api.ErrLong)
		// What can not stand is named first, wherever it stands.
		fails(t, forty+line+"pair ;", len(forty+line)+5, api.ErrSyntax)
		fails(t, forty+strings.TrimSuffix(line, "; "), len(forty+line)-2, api.ErrSyntax)
		fails(t, forty+line+"break left f 1 when "+strings.Repeat("-", 60)+"x ;", len(forty+line)+80, api.ErrDeep)
		fails(t, forty+line+"?", len(forty+line), api.ErrToken)
	}
	var all string
	for _, line := range kindLines {
		all += strings.Repeat(line, 40)
	}
	if f, _, e := decl.Parse(all); e != api.OK || len(f.Pairs) != 40 || len(f.Sames) != 40 || len(f.Keeps) != 40 || len(f.Breaks) != 40 || len(f.Watches) != 40 {
		t.Errorf("forty of each kind: %d", e)
	}
	for i, line := range kindLines { // of several the first one
		for k, other := range kindLines {
			if i != k {
				fails(t, all+line+other, len(all), api.ErrLong)
				fails(t, all+other+other+line, len(all), api.ErrLong)
			}
		}
	}
}

func TestPlaces(t *testing.T) { // P12.9
	const pair, same, keep, stop, watch = 0, 1, 2, 3, 4
	var s string
	var want [5][]int
	for _, piece := range []struct {
		kind        int
		ahead, line string
	}{
		{watch, "", "watch left f x;"},
		{stop, "\n", "break left f 1 when pair;"},
		{keep, "# pair a b ;\n  ", "keep left f x;"},
		{keep, "", "keep right f x ;"},
		{stop, "  ", "break left break 1;"},
		{same, "", "same a(b)c(d);"},
		{watch, "\n\n", "watch left watch same;"},
		{pair, " ", "pair a # pair\nc;"},
		{pair, "", "pair pair pair;"},
		{same, "", "same same ( keep ) keep ( same ) ;"},
	} {
		s += piece.ahead
		want[piece.kind] = append(want[piece.kind], len(s))
		s += piece.line
		if l, ok := decl.Places(s + "#"); !ok || !reflect.DeepEqual(l, want) {
			t.Errorf("Places(%q) = %v, %v, want %v", s, l, ok, want)
		}
	}
	for _, s := range []string{"", " ", "#pair f g ;"} {
		l, ok := decl.Places(s)
		for _, places := range l {
			if !ok || len(places) > 0 {
				t.Errorf("Places(%q) = %v, %v", s, l, ok)
			}
		}
	}
}
