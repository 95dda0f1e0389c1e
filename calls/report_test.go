package calls_test

import (
	"math"
	"slices"
	"strconv"
	"strings"
	"testing"

	"parallax/api"
	"parallax/calls"
	"parallax/decl"
	"parallax/gen"
	"parallax/live"
	"parallax/syntax"
)

func program(t *testing.T, s string) api.Prog {
	t.Helper()
	p, at, e := syntax.Parse(s)
	if e != api.OK {
		t.Fatalf("Parse(%q): %d, %d", s, at, e)
	}
	return p
}

func built(t *testing.T, s string, keep []gen.Keep, plain bool) gen.Build {
	t.Helper()
	b, at, e := gen.Compile(program(t, s), keep, plain)
	if e != api.OK {
		t.Fatalf("Compile(%q): %v, %d", s, at, e)
	}
	return b
}

func declared(t *testing.T, s string) decl.File {
	t.Helper()
	f, at, e := decl.Parse(s)
	if e != api.OK {
		t.Fatalf("Parse(%q): %d, %d", s, at, e)
	}
	return f
}

// told is the text of entries: the positions, the same's number, the values.
func told(l []calls.Entry) string {
	var s []string
	for _, x := range l {
		s = append(s, strings.Join([]string{strconv.Itoa(x.A), strconv.Itoa(x.B), strconv.Itoa(x.Same) + ":", numbers(x.ValA), "and", numbers(x.ValB)}, " "))
	}
	return strings.Join(s, "; ")
}

func numbers(l []int64) string {
	var s []string
	for _, n := range l {
		s = append(s, strconv.FormatInt(n, 10))
	}
	return strings.Join(s, " ")
}

// builds are all ways to build two programs: plain, lean with what a file keeps, lean with nothing kept.
func builds(t *testing.T, left, right string, f decl.File) [][2]gen.Build {
	t.Helper()
	var all [][2]gen.Build
	side := func(s string, side int) []gen.Build {
		return []gen.Build{built(t, s, nil, true), built(t, s, decl.Kept(f, side), false), built(t, s, nil, false)}
	}
	for _, a := range side(left, 0) {
		for _, b := range side(right, 1) {
			all = append(all, [2]gen.Build{a, b})
		}
	}
	return all
}

// reports asks for a report, whatever the builds are.
func reports(t *testing.T, left, right, file string, input []int64, fuel, limit int, want string, cut bool) {
	t.Helper()
	f := declared(t, file)
	for i, x := range builds(t, left, right, f) {
		given := slices.Clone(input)
		l, truncated, e := calls.Report(x[0], x[1], f, input, fuel, limit)
		if e != api.OK || told(l) != want || truncated != cut {
			t.Errorf("%s\n%s\n%s\nbuilds %d: %s, %v, %d; want %s, %v", left, right, file, i, told(l), truncated, e, want, cut)
		}
		if !slices.Equal(input, given) {
			t.Errorf("the input was changed")
		}
	}
}

const (
	doubled = "proc main ( ) { var x ; x = f ( 3 ) ; print x ; } proc f ( int a ) int { return a * 2 ; }"
	more    = "proc main ( ) { var x ; x = f ( 3 ) ; print x ; } proc f ( int a ) int { return a + 2 ; }"
	emptied = "proc g ( int b ) int { b = b - 3 ; return 6 ; } proc main ( ) { var y ; y = g ( 3 ) ; print y ; }"
	truth   = "proc main ( ) { var bool x ; x = f ( 3 ) ; print x ; } proc f ( int a ) bool { return a == 2 ; }"
	untruth = "proc main ( ) { var bool x ; x = f ( 3 ) ; print x ; } proc f ( int a ) bool { return a != 2 ; }"
	silent  = "proc main ( ) { f ( 4 ) ; } proc f ( int a ) { a = 5 ; }"
)

func TestReport(t *testing.T) { // P16.3
	for _, c := range []struct{ left, right, file, want string }{
		{doubled, more, "pair main main ; pair f f ;", "6 6 -1: 6 and 5"},
		{doubled, more, "pair f f ; pair main main ;", "6 6 -1: 6 and 5"},
		{more, doubled, "pair main main ; pair f f ;", "6 6 -1: 5 and 6"},
		{doubled, more, "pair f f ;", ""}, // the calls of main are not matched
		{doubled, more, "pair main main ;", ""},
		{doubled, more, "", ""},
		{doubled, more, "pair main f ; pair f main ;", ""}, // the first calls are of no pair
		{doubled, doubled, "pair main main ; pair f f ; same f ( a ) f ( a ) ; same main ( x ) main ( x ) ;", ""},
		{doubled, emptied, "pair main main ; pair f g ; same f ( a ) g ( b ) ;", "6 7 0: 3 and 0"}, // the answers are the same
		{emptied, doubled, "pair g f ; pair main main ; same main ( y ) main ( x ) ; same g ( b ) f ( a ) ;", "7 6 1: 0 and 3"},
		{doubled, emptied, "pair main main ; pair f g ; same f ( a ) g ( b ) ; same f ( a ) g ( b ) ;", "6 7 0: 3 and 0; 6 7 1: 3 and 0"},
		{truth, untruth, "pair main main ; pair f f ;", "6 6 -1: 0 and 1"},
		{untruth, truth, "pair main main ; pair f f ;", "6 6 -1: 1 and 0"},
		{truth, doubled, "pair main main ; pair f f ;", ""}, // answers of unlike types
		{doubled, truth, "pair main main ; pair f f ;", ""},
		{doubled, silent, "pair main main ; pair f f ;", ""}, // one that answers nothing
		{silent, silent, "pair main main ; pair f f ;", ""},
		{doubled, silent, "pair main main ; pair f f ; same f ( a ) f ( a ) ;", "4 3 0: 3 and 4; 6 5 0: 3 and 5"},
	} {
		reports(t, c.left, c.right, c.file, nil, 99, 99, c.want, false)
	}
}

func TestReportOrder(t *testing.T) { // P16.3: by the positions of the left side, sames in order, answers behind them
	left := "proc main ( ) { var x ; x = f ( 1 , true ) ; x = f ( 2 , false ) ; } proc f ( int a , bool b ) int { a = a + 1 ; b = ! b ; return a ; }"
	right := "proc main ( ) { g ( false , 3 ) ; g ( false , 2 ) ; } proc g ( bool q , int p ) int { return p ; }"
	reports(t, left, right, "pair f g ; pair main main ; same f ( b ) g ( q ) ; same f ( a ) g ( p ) ;", nil, 99, 0,
		"4 3 0: 1 and 0; 4 3 1: 1 and 3; 8 5 1: 2 and 3; 8 5 -1: 2 and 3; 14 9 0: 1 and 0; 14 9 1: 3 and 2; 14 9 -1: 3 and 2", false)
	reports(t, left, right, "pair f g ; pair main main ; same f ( a ) g ( p ) ; same f ( b ) g ( q ) ;", nil, 99, 0,
		"4 3 0: 1 and 3; 4 3 1: 1 and 0; 8 5 0: 2 and 3; 8 5 -1: 2 and 3; 14 9 0: 3 and 2; 14 9 1: 1 and 0; 14 9 -1: 3 and 2", false)
}

func TestReportDeep(t *testing.T) { // P16.3, W5: wrong answers are found at the calls that gave them, the inner ones ahead
	fact := "proc main ( ) { var n ; read n ; n = f ( n ) ; print n ; } proc f ( int n ) int { var m ; if ( n < 2 ) { return 1 ; } m = f ( n - 1 ) ; return n * m ; }"
	wrong := strings.Replace(fact, "return 1", "return n", 1)
	file := "pair main main ; pair f f ; same f ( n ) f ( n ) ; same f ( m ) f ( m ) ;" // m is in scope nowhere that counts
	reports(t, fact, wrong, file, []int64{3}, 99, 0, "", false)
	reports(t, fact, wrong, file, []int64{0}, 99, 0, "9 9 -1: 1 and 0", false)
	wrong = strings.Replace(fact, "n * m", "n + m", 1)
	reports(t, fact, wrong, file, []int64{2}, 99, 0, "15 15 -1: 2 and 3", false)
	reports(t, fact, wrong, file, []int64{4}, 99, 0, "23 23 -1: 2 and 3; 27 27 -1: 24 and 10", false) // 3 * 2 is 3 + 3
}

func TestReportUnleft(t *testing.T) { // P16.3: a call that is not left on one side has but one boundary
	left := "proc main ( ) { f ( 1 ) ; } proc f ( int a ) int { a = 7 ; return a ; }"
	right := "proc main ( ) { f ( 2 ) ; } proc f ( int a ) int { assert false ; return 5 ; }"
	file := "pair main main ; pair f f ; same f ( a ) f ( a ) ;"
	reports(t, left, right, file, nil, 99, 9, "3 3 0: 1 and 2", false)
	reports(t, right, left, file, nil, 99, 9, "3 3 0: 2 and 1", false)
	reports(t, right, right, file, nil, 99, 9, "", false)
	other := strings.Replace(left, "f ( 1 )", "f ( 3 )", 1)
	for fuel, want := range []string{"", "", "", "3 3 0: 1 and 3", "3 3 0: 1 and 3", "3 3 0: 1 and 3", "3 3 0: 1 and 3", "3 3 0: 1 and 3"} {
		reports(t, left, other, file, nil, fuel, 9, want, false)
	}
	deep := "proc main ( ) { f ( 1 ) ; } proc f ( int a ) { f ( a + 1 ) ; }"
	even := "proc main ( ) { f ( 1 ) ; } proc f ( int a ) { if ( a % 2 == 0 ) { f ( a + 2 ) ; } else { f ( a + 1 ) ; } }"
	l, cut, e := calls.Report(built(t, deep, nil, false), built(t, even, nil, true), declared(t, file), nil, 999, 0)
	if e != api.OK || cut || len(l) != api.MaxDepth-3 { // main's has no a, and the first two have the same
		t.Errorf("%d entries, %v, %d", len(l), cut, e)
	}
}

func TestReportMatches(t *testing.T) { // P16.3: by the pairs and the limit; whether it is truncated
	left := "proc main ( ) { h ( 9 ) ; f ( 1 ) ; f ( 2 ) ; } proc f ( int a ) int { return a ; } proc h ( int a ) { }"
	right := "proc main ( ) { f ( 5 ) ; f ( 2 ) ; } proc f ( int a ) int { return a ; } proc h ( int a ) { }"
	file := "pair main main ; pair f f ; pair h h ; same h ( a ) h ( a ) ; same f ( a ) f ( a ) ;"
	found := "6 3 1: 1 and 5; 8 5 1: 1 and 5; 8 5 -1: 1 and 5"
	reports(t, left, right, file, nil, 99, 6, found, false)
	reports(t, left, right, file, nil, 99, math.MaxInt, found, false)
	reports(t, left, right, file, nil, 99, 5, "", true)
	reports(t, left, right, file, nil, 99, 0, "", true)
	reports(t, left, right, file, nil, 99, math.MinInt, "", true)
	reports(t, left, right, file, nil, 5, 5, "", false) // of the left side h alone was called: 1 times 2
	first := strings.Replace(right, "f ( 5 ) ;", "h ( 5 ) ; h ( 5 ) ; f ( 5 ) ;", 1)
	reports(t, left, first, file, nil, 99, 5, "3 3 0: 9 and 5; 4 4 0: 9 and 5", true)
}

func TestReportInput(t *testing.T) { // P16.3: both sides read the same
	left := "proc main ( ) { var x ; read x ; f ( x ) ; read x ; f ( x ) ; } proc f ( int a ) { }"
	right := "proc main ( ) { var x ; read x ; f ( - x ) ; read x ; f ( x ) ; } proc f ( int a ) { }"
	file := "pair main main ; pair f f ; same f ( a ) f ( a ) ;"
	reports(t, left, right, file, []int64{4, 5}, 99, 0, "5 5 0: 4 and -4; 6 6 0: 4 and -4", false)
	reports(t, left, right, file, []int64{math.MinInt64}, 99, 0, "", false)
	reports(t, left, right, file, []int64{}, 99, 0, "", false)
	reports(t, left, right, file, []int64{math.MaxInt64, 1, 2}, 99, 0, "5 5 0: 9223372036854775807 and -9223372036854775807; 6 6 0: 9223372036854775807 and -9223372036854775807", false)
}

func TestReportErrors(t *testing.T) { // P16.3: Check's, then New's
	b := built(t, doubled, nil, true)
	broken := b
	broken.Codes = nil
	fine := declared(t, "pair main main ; pair f f ;")
	long := make([]int64, api.MaxInput+1)
	for i, c := range []struct {
		a, b  gen.Build
		f     decl.File
		input []int64
		fuel  int
		e     api.Errno
	}{
		{b, b, fine, nil, 0, api.OK},
		{b, b, fine, long[1:], api.MaxFuel, api.OK},
		{b, b, fine, nil, -1, api.ErrArg},
		{b, b, fine, nil, api.MaxFuel + 1, api.ErrArg},
		{b, b, fine, nil, math.MinInt, api.ErrArg},
		{b, b, fine, long, 9, api.ErrArg},
		{b, b, declared(t, "pair main g ;"), nil, 9, api.ErrName},
		{b, b, declared(t, "pair main g ;"), long, -1, api.ErrName},
		{b, b, declared(t, "pair f f ; pair main f ;"), nil, 9, api.ErrPair},
		{b, b, declared(t, "pair f f ; same f ( a ) f ( x ) ;"), nil, 9, api.ErrName},
		{b, b, declared(t, "same f ( a ) f ( a ) ;"), nil, 9, api.ErrPair},
		{b, b, declared(t, "keep left f b ;"), nil, 9, api.ErrName},
		{b, b, declared(t, "break right f 3 ;"), nil, 9, api.ErrPlace},
		{b, b, declared(t, "watch left f x ;"), nil, 9, api.ErrName},
		{b, b, declared(t, "break left f 1 when a ;"), nil, 9, api.ErrType},
		{gen.Build{}, b, fine, nil, 9, api.ErrMain},
		{b, gen.Build{}, fine, nil, 9, api.ErrMain},
		{gen.Build{}, gen.Build{}, decl.File{}, long, -1, api.ErrMain},
		{broken, b, fine, nil, 9, api.ErrCode},
		{b, broken, fine, nil, 9, api.ErrCode},
		{broken, broken, fine, long, -1, api.ErrCode},
		{b, broken, fine, long, -1, api.ErrArg}, // the left side's first
		{broken, b, declared(t, "pair main g ;"), nil, 9, api.ErrName},
	} {
		l, cut, e := calls.Report(c.a, c.b, c.f, c.input, c.fuel, 99)
		if e != c.e || len(l) > 0 || cut {
			t.Errorf("%d: %v, %v, %d; want %d", i, l, cut, e, c.e)
		}
	}
}

func TestReportOfOddBuilds(t *testing.T) { // P1: builds that Compile never answers
	b := built(t, doubled, nil, true)
	f := declared(t, "pair main main ; pair f f ; same f ( a ) f ( a ) ;")
	for _, bend := range []func(b *gen.Build){
		func(b *gen.Build) { b.Plain = false },
		func(b *gen.Build) { b.Main = 1 },
		func(b *gen.Build) { b.Main = -1 },
		func(b *gen.Build) { b.Info.Vars, b.Info.Marks = nil, nil },
		func(b *gen.Build) { b.Info.Vars = b.Info.Vars[:1] },
		func(b *gen.Build) { b.Tables = nil },
		func(b *gen.Build) { b.Tables = []live.Table{{}, {}} },
		func(b *gen.Build) { b.Prog = built(t, emptied, nil, true).Prog },
		func(b *gen.Build) { b.Prog.Procs = b.Prog.Procs[:1] },
		func(b *gen.Build) { b.Codes = b.Codes[:1] },
		func(b *gen.Build) { b.Codes = []api.Code{b.Codes[1], b.Codes[0]} },
		func(b *gen.Build) { // a procedure more than the program has
			b.Codes = append(slices.Clone(b.Codes), oneMark(9))
			b.Main = 2
		},
		func(b *gen.Build) { b.Codes = []api.Code{oneMark(api.MStmt), b.Codes[1]} },                  // no run's ticks
		func(b *gen.Build) { b.Codes = []api.Code{{Ins: []api.Ins{{Op: api.OpLeave}}}, b.Codes[1]} }, // no ticks
		func(b *gen.Build) { b.Codes = []api.Code{oneMark(api.MEnter), b.Codes[1]} },
	} {
		odd := b
		bend(&odd)
		for _, x := range [][2]gen.Build{{odd, b}, {b, odd}, {odd, odd}} {
			if l, cut, e := calls.Report(x[0], x[1], f, nil, 99, 99); e != api.OK && (len(l) > 0 || cut) {
				t.Errorf("%v, %v, %d", l, cut, e)
			}
		}
	}
}

// oneMark is a code that ticks once, by that Kind.
func oneMark(kind int64) api.Code {
	return api.Code{Ins: []api.Ins{{Op: api.OpMark, M: kind}, {Op: api.OpLeave}}}
}
