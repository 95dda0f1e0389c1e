package decl_test

import (
	"math"
	"reflect"
	"slices"
	"strings"
	"testing"

	"parallax/api"
	"parallax/decl"
	"parallax/gen"
	"parallax/syntax"
)

// source is the program of a source.
func source(t *testing.T, s string) api.Prog {
	t.Helper()
	p, at, e := syntax.Parse(s)
	if e != api.OK {
		t.Fatalf("%q: %d at %d", s, e, at)
	}
	return p
}

// file is what a text declares.
func file(t *testing.T, s string) decl.File {
	t.Helper()
	f, at, e := decl.Parse(s)
	if e != api.OK {
		t.Fatalf("%q: %d at %d", s, e, at)
	}
	return f
}

const leftSource = `
proc main ( ) { var x ; var bool b ; var a [ 3 ] ; read x ; b = f ( x , true ) ; a [ 0 ] = 1 ; if ( b ) { var y ; y = 2 ; } }
proc f ( int n , bool c ) bool { var k [ 2 ] ; return c ; }
proc left ( ) { }
`

const rightSource = `
proc g ( bool c , int m ) int { var w [ 2 ] ; var v [ 3 ] ; while ( c ) { var bool d ; c = d ; } return m ; }
proc right ( ) { }
proc main ( ) { var z ; z = g ( true , 4 ) ; }
`

// The kinds of spots.
const (
	aPair = iota + 1
	aSame
	aKeep
	aBreak
	aWatch
	theLeft
	theRight
)

// fits asks that declarations fit the two sources.
func fits(t *testing.T, s string) {
	t.Helper()
	if at, e := decl.Check(file(t, s), source(t, leftSource), source(t, rightSource)); e != api.OK || at != (decl.Spot{}) {
		t.Errorf("%q: %v, %d", s, at, e)
	}
}

// unfit asks that declarations do not fit the two sources.
func unfit(t *testing.T, s string, kind, index int, want api.Errno) {
	t.Helper()
	if at, e := decl.Check(file(t, s), source(t, leftSource), source(t, rightSource)); e != want || at != (decl.Spot{Kind: kind, Index: index}) {
		t.Errorf("%q: %v, %d, want %d of %d, %d", s, at, e, index, kind, want)
	}
}

func TestCheckPairs(t *testing.T) { // P12.3
	fits(t, "")
	fits(t, "pair main main ; pair f g ; pair left right ;")
	fits(t, "pair main right ; pair f main ;")
	fits(t, "pair f right ;")
	unfit(t, "pair g g ;", aPair, 0, api.ErrName)
	unfit(t, "pair f f ;", aPair, 0, api.ErrName)
	unfit(t, "pair main main ; pair right left ;", aPair, 1, api.ErrName)
	unfit(t, "pair f g ; pair f g ;", aPair, 1, api.ErrPair)
	unfit(t, "pair f g ; pair main right ; pair f main ;", aPair, 2, api.ErrPair)
	unfit(t, "pair f g ; pair main g ;", aPair, 1, api.ErrPair)
	// A name that is missing is told ahead of one that is paired.
	unfit(t, "pair f g ; pair f nope ;", aPair, 1, api.ErrName)
	unfit(t, "pair f g ; pair nope g ;", aPair, 1, api.ErrName)
	// Names that both programs have are two procedures.
	p := source(t, "proc main ( ) { } proc f ( ) { }")
	if at, e := decl.Check(file(t, "pair f main ; pair main f ;"), p, p); e != api.OK || at != (decl.Spot{}) {
		t.Errorf("%v, %d", at, e)
	}
}

func TestCheckSames(t *testing.T) { // P12.3
	const ahead = "pair main main ; pair f g ; "
	fits(t, ahead+"same f ( n ) g ( m ) ; same f ( c ) g ( c ) ; same f ( k ) g ( w ) ; same main ( x ) main ( z ) ; same main ( y ) main ( z ) ;")
	fits(t, ahead+"same f ( c ) g ( d ) ; same f ( c ) g ( d ) ;")
	fits(t, "same f ( n ) g ( m ) ; "+ahead) // the pair may stand behind it
	unfit(t, ahead+"same nope ( n ) g ( m ) ;", aSame, 0, api.ErrName)
	unfit(t, ahead+"same f ( n ) nope ( m ) ;", aSame, 0, api.ErrName)
	unfit(t, ahead+"same g ( n ) g ( m ) ;", aSame, 0, api.ErrName)
	unfit(t, "same f ( n ) g ( m ) ;", aSame, 0, api.ErrPair)
	unfit(t, ahead+"same main ( x ) g ( m ) ;", aSame, 0, api.ErrPair)
	unfit(t, ahead+"same f ( n ) main ( z ) ;", aSame, 0, api.ErrPair)
	unfit(t, ahead+"same f ( n ) g ( m ) ; same f ( x ) g ( m ) ;", aSame, 1, api.ErrName)
	unfit(t, ahead+"same f ( n ) g ( z ) ;", aSame, 0, api.ErrName)
	unfit(t, ahead+"same f ( n ) g ( c ) ;", aSame, 0, api.ErrType)
	unfit(t, ahead+"same f ( c ) g ( m ) ;", aSame, 0, api.ErrType)
	unfit(t, ahead+"same f ( n ) g ( w ) ;", aSame, 0, api.ErrType)
	unfit(t, ahead+"same f ( k ) g ( m ) ;", aSame, 0, api.ErrType)
	unfit(t, ahead+"same f ( k ) g ( v ) ;", aSame, 0, api.ErrType)
	// In the order of the promise.
	unfit(t, ahead+"same main ( nope ) g ( m ) ;", aSame, 0, api.ErrPair)
	unfit(t, ahead+"same main ( x ) nope ( m ) ;", aSame, 0, api.ErrName)
	unfit(t, ahead+"same f ( nope ) g ( w ) ;", aSame, 0, api.ErrName)
}

func TestCheckKeepsAndWatches(t *testing.T) { // P12.3
	fits(t, "keep left main x ; keep left main a ; keep left main y ; keep left main y ; keep right g w ; keep right g d ; keep left f n ;")
	fits(t, "watch left main x ; watch left main b ; watch left main y ; watch right g d ; watch right main z ; watch left f c ;")
	for kind, word := range map[int]string{aKeep: "keep", aWatch: "watch"} {
		unfit(t, word+" left g c ;", kind, 0, api.ErrName)
		unfit(t, word+" right f c ;", kind, 0, api.ErrName)
		unfit(t, word+" left main x ; "+word+" left main z ;", kind, 1, api.ErrName)
		unfit(t, word+" right main x ;", kind, 0, api.ErrName)
		unfit(t, word+" left main n ;", kind, 0, api.ErrName)
	}
	unfit(t, "watch left main x ; watch left main a ;", aWatch, 1, api.ErrType)
	unfit(t, "watch right g w ;", aWatch, 0, api.ErrType)
}

func TestCheckBreaks(t *testing.T) { // P12.3
	fits(t, "break left main 0 ; break left main 9 ; break left main 10 ; break left left 0 ; break left left 1 ; break right g 7 ; break left f 3 ;")
	fits(t, "break left f 1 when c ; break left f 0 when c && n < 3 ; break left f 2 when k [ n ] == 0 ; break left f 3 when c ; break left left 1 when true ;")
	fits(t, "break left main 9 when y == x ; break right g 5 when d == c ;")
	unfit(t, "break left g 0 ;", aBreak, 0, api.ErrName)
	unfit(t, "break right f 0 ;", aBreak, 0, api.ErrName)
	unfit(t, "break left main 11 ;", aBreak, 0, api.ErrPlace)
	unfit(t, "break left main 1 ; break left left 2 ;", aBreak, 1, api.ErrPlace)
	unfit(t, "break left main 9223372036854775807 ;", aBreak, 0, api.ErrPlace)
	unfit(t, "break left f 1 when n ;", aBreak, 0, api.ErrType)
	unfit(t, "break left f 1 when c + 1 == 2 ;", aBreak, 0, api.ErrType)
	unfit(t, "break left f 1 when m == 2 ;", aBreak, 0, api.ErrName)
	unfit(t, "break left f 1 when k [ n ] == 0 ;", aBreak, 0, api.ErrName) // declared at that mark, in scope behind it
	unfit(t, "break left f 3 when k [ n ] == 0 ;", aBreak, 0, api.ErrName)
	unfit(t, "break left main 8 when y == x ;", aBreak, 0, api.ErrName)
	unfit(t, "break left main 10 when y == x ;", aBreak, 0, api.ErrName)
	unfit(t, "break left f 2 when k == 0 ;", aBreak, 0, api.ErrType)
	// In the order of the promise.
	unfit(t, "break left nope 99 when nope ;", aBreak, 0, api.ErrName)
	unfit(t, "break left main 99 when nope ;", aBreak, 0, api.ErrPlace)
	unfit(t, "break left main 1 when nope + 1 ;", aBreak, 0, api.ErrName)
}

func TestCheckOddBreaks(t *testing.T) { // P12.3: files that no text has
	l, r := source(t, leftSource), source(t, rightSource)
	for _, c := range []struct {
		b    decl.Break
		want api.Errno
	}{
		{decl.Break{Proc: "main", Mark: -1}, api.ErrPlace},
		{decl.Break{Proc: "main", Mark: math.MinInt64}, api.ErrPlace},
		{decl.Break{Proc: "main", Mark: math.MinInt64 + 10}, api.ErrPlace},
		{decl.Break{Proc: "main", When: []api.Expr{{}}}, api.ErrForm},
		{decl.Break{Proc: "main", When: []api.Expr{two(whole(1), "==", whole(-1))}}, api.ErrForm},
		{decl.Break{Proc: "main", Mark: -1, When: []api.Expr{{}}}, api.ErrPlace},
		{decl.Break{Proc: "main", When: []api.Expr{}}, api.OK},
	} {
		want := decl.Spot{Kind: aBreak, Index: 1}
		if c.want == api.OK {
			want = decl.Spot{}
		}
		if at, e := decl.Check(decl.File{Breaks: []decl.Break{{Proc: "main"}, c.b}}, l, r); e != c.want || at != want {
			t.Errorf("%v: %v, %d, want %d", c.b, at, e, c.want)
		}
	}
}

func TestCheckOrder(t *testing.T) { // P12.3: kind by kind, in order
	wrong := []string{"pair f f ;", "same main ( x ) g ( m ) ;", "keep left g x ;", "break left main 11 ;", "watch left main a ;"}
	errs := []api.Errno{api.ErrName, api.ErrPair, api.ErrName, api.ErrPlace, api.ErrType}
	for i, first := range wrong {
		for k := i; k < len(wrong); k++ { // those of later kinds stand ahead
			unfit(t, wrong[k]+" "+first, i+1, 0, errs[i])
		}
		rest := slices.Clone(wrong[i:])
		slices.Reverse(rest)
		unfit(t, strings.Join(rest, " "), i+1, 0, errs[i])
	}
	unfit(t, "keep left main x ; keep right main x ; keep left g x ;", aKeep, 1, api.ErrName)
}

func TestCheckPrograms(t *testing.T) { // P12.3: the programs first, the left one ahead
	ok := source(t, "proc main ( ) { }")
	none := source(t, "")
	second := source(t, "proc main ( ) { } proc f ( ) { x = 1 ; }")
	third := source(t, "proc f ( ) { } proc main ( ) { } proc g ( ) int { }")
	wrong := decl.File{Pairs: []api.Pair{{ProcA: "nope", ProcB: "nope"}}}
	for _, c := range []struct {
		left, right api.Prog
		kind, index int
		want        api.Errno
	}{
		{none, none, theLeft, 0, api.ErrMain},
		{ok, none, theRight, 0, api.ErrMain},
		{second, none, theLeft, 1, api.ErrName},
		{ok, second, theRight, 1, api.ErrName},
		{third, second, theLeft, 2, api.ErrReturn},
		{second, third, theLeft, 1, api.ErrName},
		{ok, third, theRight, 2, api.ErrReturn},
		{ok, ok, aPair, 0, api.ErrName},
	} {
		if at, e := decl.Check(wrong, c.left, c.right); e != c.want || at != (decl.Spot{Kind: c.kind, Index: c.index}) {
			t.Errorf("%v %v: %v, %d, want %d of %d, %d", c.left, c.right, at, e, c.index, c.kind, c.want)
		}
	}
}

// keep asks what is kept on a side.
func keep(t *testing.T, f decl.File, side int, want ...gen.Keep) {
	t.Helper()
	if l := decl.Kept(f, side); !slices.Equal(l, want) {
		t.Errorf("Kept(%v, %d) = %v, want %v", f, side, l, want)
	}
}

func TestKept(t *testing.T) { // P12.4
	keep(t, decl.File{}, 0)
	keep(t, decl.File{}, 1)
	f := file(t, "keep left f y ; keep right f y ; same f ( x ) g ( y ) ; keep left f x ; same f ( x ) h ( z ) ; pair f g ; keep left f y ; keep right h z ; keep left g y ; watch left f w ; break left f 1 when u ;")
	keep(t, f, 0, gen.Keep{Proc: "f", Var: "x"}, gen.Keep{Proc: "f", Var: "y"}, gen.Keep{Proc: "g", Var: "y"})
	keep(t, f, 1, gen.Keep{Proc: "g", Var: "y"}, gen.Keep{Proc: "h", Var: "z"}, gen.Keep{Proc: "f", Var: "y"})
	keep(t, file(t, "pair f g ; watch left f x ;"), 0)
	// One name with the other's variable, and the other way round, are two.
	keep(t, file(t, "keep left a b ; keep left b a ; keep left a b ;"), 0, gen.Keep{Proc: "a", Var: "b"}, gen.Keep{Proc: "b", Var: "a"})
	for _, side := range []int{-1, 2, math.MaxInt, math.MinInt} {
		keep(t, f, side)
	}
	// What is answered is new.
	l := decl.Kept(f, 0)
	l[0] = gen.Keep{}
	keep(t, f, 0, gen.Keep{Proc: "f", Var: "x"}, gen.Keep{Proc: "f", Var: "y"}, gen.Keep{Proc: "g", Var: "y"})
}

// clears asks what Clear answers of declarations and the left source, on the left side; and that on the right one they ask nothing.
func clears(t *testing.T, s string, want api.Errno) {
	t.Helper()
	p := source(t, leftSource)
	if e := decl.Clear(file(t, s), 0, p); e != want {
		t.Errorf("Clear of %q: %d, want %d", s, e, want)
	}
	if e := decl.Clear(file(t, s), 1, p); e != api.OK {
		t.Errorf("Clear of %q, right: %d", s, e)
	}
	turned := strings.ReplaceAll(s, " left ", " right ")
	if e := decl.Clear(file(t, turned), 1, p); e != want {
		t.Errorf("Clear of %q, right: %d, want %d", turned, e, want)
	}
	if e := decl.Clear(file(t, turned), 0, p); e != api.OK {
		t.Errorf("Clear of %q: %d", turned, e)
	}
}

func TestClear(t *testing.T) { // P12.4
	clears(t, "", api.OK)
	clears(t, "watch left f n ;", api.ErrWatch)
	clears(t, "watch left f n ; keep left f n ;", api.OK)
	clears(t, "watch left f n ; keep left f c ; keep left main n ;", api.ErrWatch)
	clears(t, "keep left f n ; watch left f n ; watch left f c ;", api.ErrWatch)
	clears(t, "watch left nope nope ;", api.ErrWatch)
	clears(t, "break left f 1 ;", api.OK)
	clears(t, "break left f 1 when true ;", api.OK)
	clears(t, "break left f 1 when c ;", api.ErrWatch)
	clears(t, "break left f 1 when c ; keep left f c ;", api.OK)
	clears(t, "break left f 1 when c && n < 3 ; keep left f c ;", api.ErrWatch)
	clears(t, "break left f 1 when c && n < 3 ; keep left f c ; keep left f n ;", api.OK)
	clears(t, "break left f 2 when k [ 0 ] == 1 ; keep left f n ;", api.ErrWatch)
	clears(t, "break left f 2 when k [ n ] == 1 ; keep left f k ;", api.ErrWatch)
	clears(t, "break left f 2 when k [ k [ - n ] ] == 1 ; keep left f k ; keep left f n ;", api.OK)
	clears(t, "break left f 1 when ! ! ( 1 == 1 || c ) ;", api.ErrWatch)
	// Only what is in scope there.
	clears(t, "break left f 1 when k [ 0 ] == 1 ;", api.OK)
	clears(t, "break left f 3 when k [ 0 ] == 1 ;", api.OK)
	clears(t, "break left f 1 when nope ;", api.OK)
	clears(t, "break left main 8 when y == 1 ;", api.OK)
	clears(t, "break left main 9 when y == 1 ;", api.ErrWatch)
	clears(t, "break left main 10 when y == 1 ;", api.OK)
	clears(t, "break left nope 1 when x ;", api.OK)
	clears(t, "break left f 99 when c ;", api.OK)
	clears(t, "break left f 9223372036854775807 when c ;", api.OK)
	clears(t, "break left f 1 when c ; break left f 2 when k [ 0 ] == 1 ; keep left f c ;", api.ErrWatch)
}

func TestClearSides(t *testing.T) { // P12.4: sames keep on both sides, keeps and what asks on their own
	l, r := source(t, leftSource), source(t, rightSource)
	f := file(t, "same f ( n ) g ( m ) ; watch left f n ; watch right g m ; break left f 1 when n == 1 ; break right g 1 when m == 1 ;")
	if e := decl.Clear(f, 0, l); e != api.OK {
		t.Error(e)
	}
	if e := decl.Clear(f, 1, r); e != api.OK {
		t.Error(e)
	}
	f = file(t, "keep left g m ; watch right g m ;")
	if e := decl.Clear(f, 1, r); e != api.ErrWatch {
		t.Error(e)
	}
	f = file(t, "keep left g m ; break right g 1 when m == 1 ;")
	if e := decl.Clear(f, 1, r); e != api.ErrWatch {
		t.Error(e)
	}
}

func TestClearNotRight(t *testing.T) { // P12.4: of a program that is not right breaks play no part, watches do
	for _, p := range []api.Prog{{}, source(t, "proc f ( int n , bool c ) { }"), source(t, "proc main ( ) { x = 1 ; } proc f ( bool c ) { }")} {
		if e := decl.Clear(file(t, "break left f 0 when c ;"), 0, p); e != api.OK {
			t.Error(e)
		}
		if e := decl.Clear(file(t, "break left f 0 when c ; watch left f c ;"), 0, p); e != api.ErrWatch {
			t.Error(e)
		}
		if e := decl.Clear(file(t, "break left f 0 when c ; watch left f c ; keep left f c ;"), 0, p); e != api.OK {
			t.Error(e)
		}
	}
}

func TestOddSides(t *testing.T) { // P1: sides that there are not have no procedures
	l, r := source(t, leftSource), source(t, rightSource)
	for _, side := range []int{-1, 2, math.MaxInt, math.MinInt} {
		for kind, f := range map[int]decl.File{
			aKeep:  {Keeps: []decl.Keep{{Side: side, Proc: "main", Var: "x"}}},
			aBreak: {Breaks: []decl.Break{{Side: side, Proc: "main"}}},
			aWatch: {Watches: []decl.Watch{{Side: side, Proc: "main", Var: "x"}}},
		} {
			if at, e := decl.Check(f, l, r); e != api.ErrName || at != (decl.Spot{Kind: kind}) {
				t.Errorf("%v: %v, %d", f, at, e)
			}
			if e := decl.Clear(f, 0, l); e != api.OK {
				t.Errorf("%v: Clear: %d", f, e)
			}
		}
	}
}

func TestGivenStays(t *testing.T) { // rule 3: what is handed in is not changed
	const s = "pair f g ; same f ( n ) g ( m ) ; keep left f n ; break left f 1 when c && n < 3 ; watch left f n ;"
	f, l, r := file(t, s), source(t, leftSource), source(t, rightSource)
	decl.Check(f, l, r)
	decl.Kept(f, 0)
	decl.Clear(f, 0, l)
	if _, e := decl.Print(f); e != api.OK {
		t.Error(e)
	}
	if !reflect.DeepEqual(f, file(t, s)) || !reflect.DeepEqual(l, source(t, leftSource)) || !reflect.DeepEqual(r, source(t, rightSource)) {
		t.Errorf("%v", f)
	}
}
