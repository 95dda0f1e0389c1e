package session_test

import (
	"math"
	"slices"
	"strconv"
	"strings"
	"testing"

	"parallax/api"
	"parallax/session"
)

// faulty asks for the fault of a setup.
func faulty(t *testing.T, x session.Setup, want session.Fault) {
	t.Helper()
	input := slices.Clone(x.Input)
	s, f := session.Open(x)
	if f != want || (s == nil) != (want != session.Fault{}) {
		t.Errorf("%.500q, %.500q, %.500q, %v %v: %v, %v; want %v", x.Left, x.Right, x.Decl, x.PlainLeft, x.PlainRight, s != nil, f, want)
	}
	if !slices.Equal(x.Input, input) {
		t.Errorf("the input was changed")
	}
}

// many are procedures of numbered names, each behind a blank.
func many(n int) string {
	var s strings.Builder
	for k := range n {
		s.WriteString(" proc p" + strconv.Itoa(k) + " ( ) { }")
	}
	return s.String()
}

// declaring is a procedure of n variables.
func declaring(name string, n int) string {
	var s strings.Builder
	for k := range n {
		s.WriteString(" var x" + strconv.Itoa(k) + " ;")
	}
	return "proc " + name + " ( ) {" + s.String() + " }"
}

const main = " proc main ( ) { }"

func TestFaultsOfSources(t *testing.T) { // P18.1: Parse's, Check's at the place of its mark; the left source's first
	for _, c := range []struct {
		source string
		at     int
		e      api.Errno
	}{
		{"", 0, api.ErrMain}, {"x", 0, api.ErrSyntax}, {"  # \n ", 0, api.ErrMain}, {" x", 1, api.ErrSyntax}, {"proc main ( ) { @ }", 16, api.ErrToken}, {"proc main ( ) {", 15, api.ErrSyntax},
		{strings.Repeat(" ", api.MaxSource+1), 0, api.ErrLong}, {strings.Repeat(" ;", 3999), 1, api.ErrSyntax}, {strings.Repeat(" ;", 4000), 8000, api.ErrLong},
		{"proc main ( ) { print " + strings.Repeat("( ", 59) + "1" + strings.Repeat(" )", 59) + " ; }", 22 + 2*59, api.ErrDeep},
		// The whole program's are told at 0, wherever it begins.
		{" proc f ( ) { }", 0, api.ErrMain}, {"  proc main ( int a ) { }", 0, api.ErrMain}, {" proc main ( ) int { return 1 ; }", 0, api.ErrMain},
		{"  proc main ( ) { } proc main ( ) { }", 0, api.ErrName}, {"  proc main ( ) { } proc f ( int a , int a ) { } proc f ( ) { }", 0, api.ErrName},
		{many(40) + main, 0, api.ErrLong}, {many(39) + main, 0, api.OK}, {many(41), 0, api.ErrLong}, {"  proc f ( int a , int a ) { } proc f ( int a ) { }" + main, 0, api.ErrName},
		{" proc p0 ( int a , int a ) { }" + many(40), 0, api.ErrLong}, {" proc f ( int a , int a ) { }", 0, api.ErrMain},
		// The first procedure's are told where it stands, though Check tells them by the same place.
		{"  proc f ( int a , int a ) { }" + main, 2, api.ErrName}, {" proc main ( ) { var x ; var x ; }", 1, api.ErrName},
		{"# f\n proc f ( int a , int b , int c , int d , int e , int f , int g , int h , int i ) { }" + main, 5, api.ErrLong},
		{" " + declaring("main", 61), 1, api.ErrLong}, {" " + declaring("main", 60), 0, api.OK}, {declaring("main", 61), 0, api.ErrLong},
		{main + " " + declaring("f", 61), 19, api.ErrLong}, {main + " proc f ( bool a ) { var a ; }", 19, api.ErrName},
		// Statements', and what does not return.
		{"proc main ( ) { x = 1 ; }", 16, api.ErrName}, {"proc main ( ) {\n  var x ;\n  x = true ;\n}", 28, api.ErrType}, {"proc main ( ) { var x [ 65 ] ; }", 16, api.ErrLong},
		{"proc main ( ) { if ( true ) { print 1 ; } else { print 2 ; f ( ) ; } print 3 ; }", 59, api.ErrName},
		{"proc main ( ) { while ( true ) { if ( 1 ) { } } }", 33, api.ErrType}, {"proc main ( ) { return 1 ; }", 16, api.ErrType},
		{main + " proc f ( ) int { if ( true ) { return 1 ; } }", 63, api.ErrReturn}, {main + "proc f()int{}", 30, api.ErrReturn}, {main + " proc f ( ) int { return true ; }", 36, api.ErrType},
		{"proc f ( ) { g ( ) ; } proc g ( ) { h ( ) ; }" + main, 36, api.ErrName},
	} {
		want := session.Fault{Which: 1, At: c.at, Code: c.e}
		if c.e == api.OK {
			want = session.Fault{}
		}
		for _, other := range []string{one, "y", ""} { // what is wrong with the right one is told behind
			if c.e != api.OK || other == one {
				faulty(t, setup(c.source, other, "@"), fallback(want, session.Fault{Which: 3, Code: api.ErrToken}))
			}
		}
		x := setup(c.source, one, "")
		faulty(t, x, want)
		if want.Which > 0 {
			want.Which = 2
		}
		faulty(t, setup(one, c.source, ""), want)
		x = setup(one, c.source, "nope")
		x.Fuel = -1
		faulty(t, x, fallback(want, session.Fault{Which: 3, Code: api.ErrSyntax}))
	}
}

// fallback is a fault, or another one, if it is none.
func fallback(f, other session.Fault) session.Fault {
	if f.Code == api.OK {
		return other
	}
	return f
}

func TestFaultsOfDeclarations(t *testing.T) { // P18.1: Parse's, Check's at the place of its line, and what is asked and not kept
	left := "proc main ( ) { var x ; var v [ 2 ] ; x = f ( 1 ) ; } proc f ( int a ) int { return a ; }"
	right := "proc main ( ) { var bool y ; g ( true ) ; } proc g ( bool b ) { }"
	for _, c := range []struct {
		decl string
		at   int
		e    api.Errno
	}{
		{"", 0, api.OK}, {" # nothing", 0, api.OK}, {"pair main main ; pair f g ; keep left f a ; break right g 1 ; watch left f a ;", 0, api.OK},
		{"pair f", 6, api.ErrSyntax}, {"pair f g ; pear", 11, api.ErrSyntax}, {" @", 1, api.ErrToken}, {strings.Repeat("#", api.MaxSource+1), 0, api.ErrLong},
		{"break left f 1 when 1 + ;", 24, api.ErrSyntax}, {strings.Repeat("keep left f a ; ", 41), 640, api.ErrLong}, {strings.Repeat("keep left f a ; ", 40), 0, api.OK},
		{"  pair f h ;", 2, api.ErrName}, {"pair f g ; pair main g ;", 11, api.ErrPair}, {"pair f g ; # one\n same main ( x ) main ( y ) ; pair main main ;", 18, api.ErrType},
		{"pair f g ; same f ( a ) g ( b ) ;", 11, api.ErrType}, {"pair f g ; same f ( a ) g ( c ) ;", 11, api.ErrName}, {"same f ( a ) g ( b ) ;", 0, api.ErrPair},
		{"keep left f a ; keep right f a ;", 16, api.ErrName}, {"break left f 1 ; break right g 2 ;", 17, api.ErrPlace}, {"watch left f a ; keep left f a ; watch right g a ;", 33, api.ErrName},
		{"keep left main v ; watch left main v ;", 19, api.ErrType}, {"break left f 1 when a ;", 0, api.ErrType}, {"keep left f a ; break left f 1 when b == a ;", 16, api.ErrName},
		{"watch right h b ; break right h 1 ; keep right h b ; same h ( a ) h ( a ) ; pair h h ;", 76, api.ErrName}, // kind by kind
		{"keep left f a ; watch left f a ; watch left f b ;", 33, api.ErrName},
	} {
		want := session.Fault{Which: 3, At: c.at, Code: c.e}
		if c.e == api.OK {
			want = session.Fault{}
		}
		x := setup(left, right, c.decl)
		x.PlainLeft, x.PlainRight = true, true
		faulty(t, x, want)
		if x.PlainLeft, x.PlainRight = false, false; c.e != api.OK {
			faulty(t, x, want)
		}
		x.PlainLeft, x.PlainRight, x.Fuel = true, true, -1
		faulty(t, x, fallback(want, session.Fault{Which: 4, Code: api.ErrArg}))
	}
}

func TestFaultsOfWatches(t *testing.T) { // P18.1: ErrWatch, where a side that is not plain is asked what is not kept
	p := "proc main ( ) { var x ; x = f ( 1 ) ; } proc f ( int a ) int { return a ; }"
	for _, c := range []struct {
		decl        string
		left, right bool // whether that side asks
	}{
		{"watch left f a ;", true, false}, {"watch right f a ;", false, true}, {"watch left f a ; watch right f a ;", true, true},
		{"watch left f a ; keep left f a ;", false, false}, {"watch left f a ; keep right f a ;", true, false}, {"watch right f a ; keep right f a ; watch right main x ;", false, true},
		{"pair f f ; same f ( a ) f ( a ) ; watch left f a ; watch right f a ;", false, false},
		{"break left f 1 when a == 2 ;", true, false}, {"break right f 1 when a == 2 ;", false, true}, {"break right f 1 ; break left main 1 when true ;", false, false},
		{"break right main 2 when true || x == 0 ; keep right f a ;", false, true}, {"keep left main x ; break left main 2 when x == 0 ; break right f 2 when 1 < a ;", false, true},
	} {
		for k := range 4 {
			x := setup(p, p, "  "+c.decl)
			x.PlainLeft, x.PlainRight = k&1 > 0, k&2 > 0
			want := session.Fault{}
			if c.left && !x.PlainLeft || c.right && !x.PlainRight {
				want = session.Fault{Which: 3, Code: api.ErrWatch}
			}
			faulty(t, x, want)
			x.Room = 0
			faulty(t, x, fallback(want, session.Fault{Which: 4, Code: api.ErrArg}))
		}
	}
	x := setup(p, p, "watch left f a ; watch left f b ;") // what does not fit is told ahead
	faulty(t, x, session.Fault{Which: 3, At: 17, Code: api.ErrName})
}

func TestFaultsOfSettings(t *testing.T) { // P18.1: New's
	wrong := session.Fault{Which: 4, Code: api.ErrArg}
	for _, c := range []struct {
		fuel, every, room, limit, input int
		want                            session.Fault
	}{
		{0, 1, 1, 0, 0, session.Fault{}}, {api.MaxFuel, math.MaxInt, math.MaxInt, math.MaxInt, api.MaxInput, session.Fault{}}, {9, 1, 1, math.MinInt, 1, session.Fault{}},
		{-1, 1, 1, 0, 0, wrong}, {math.MinInt, 1, 1, 0, 0, wrong}, {api.MaxFuel + 1, 1, 1, 0, 0, wrong}, {math.MaxInt, 1, 1, 0, 0, wrong},
		{9, 0, 1, 0, 0, wrong}, {9, -1, 1, 0, 0, wrong}, {9, math.MinInt, 1, 0, 0, wrong}, {9, 1, 0, 0, 0, wrong}, {9, 1, -1, 0, 0, wrong}, {9, 1, math.MinInt, 0, 0, wrong},
		{9, 1, 1, 0, api.MaxInput + 1, wrong}, {-1, 0, 0, -1, 2000, wrong},
	} {
		x := session.Setup{Left: one, Right: two, Input: make([]int64, c.input), Fuel: c.fuel, Every: c.every, Room: c.room, Limit: c.limit}
		faulty(t, x, c.want)
		x.PlainLeft, x.PlainRight = true, true
		faulty(t, x, c.want)
	}
}

func TestLongestSources(t *testing.T) { // P18.1, P1: as long as there may be
	var s strings.Builder
	s.WriteString("proc main(){var x;")
	for s.Len() < api.MaxSource-9 && strings.Count(s.String(), ";")*4+8 < api.MaxTokens-4 {
		s.WriteString("x=1;")
	}
	s.WriteString("}")
	x := setup(s.String(), s.String()+strings.Repeat(" ", api.MaxSource-s.Len()), "watch left main x ; keep left main x ; "+strings.Repeat("break left main 3 ; ", 40))
	x.Fuel = api.MaxFuel
	lines := opened(t, x).Do("run both")
	if !strings.HasPrefix(lines[0], "left 4 of ") || !strings.HasSuffix(lines[1], "over") {
		t.Errorf("%q", lines)
	}
}

func TestInputIsNotKept(t *testing.T) { // rule 3
	p := "proc main ( ) { var x ; read x ; print x ; f ( x ) ; } proc f ( int a ) { }"
	x := setup(p, strings.Replace(p, "f ( x )", "f ( x + 1 )", 1), "pair main main ; pair f f ; same f ( a ) f ( a ) ;")
	x.Input = []int64{5, 6}
	s := opened(t, x)
	x.Input[0] = 7
	does(t, s, "run left", "left 9 of 9: over")
	does(t, s, "events left", "read 5 / print 5 / end")
	does(t, s, "report", "left 6 right 6 same 0: 5 and 6 / left 7 right 7 same 0: 5 and 6 / entries 2")
}
