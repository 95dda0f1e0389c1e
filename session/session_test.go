package session_test

import (
	"slices"
	"strconv"
	"strings"
	"testing"

	"parallax/api"
	"parallax/session"
)

func opened(t *testing.T, x session.Setup) *session.Session {
	t.Helper()
	s, f := session.Open(x)
	if s == nil || f != (session.Fault{}) {
		t.Fatalf("Open of %+v: %v", x, f)
	}
	return s
}

// setup is one of two sources, with copies, fuel and a limit.
func setup(left, right, decl string) session.Setup {
	return session.Setup{Left: left, Right: right, Decl: decl, Fuel: 99, Every: 4, Room: 3, Limit: 99}
}

// does asks what a line answers: texts with a / between.
func does(t *testing.T, s *session.Session, line, want string) {
	t.Helper()
	if got := strings.Join(s.Do(line), " / "); got != want {
		t.Errorf("%q: %q; want %q", line, got, want)
	}
}

// plays asks what lines answer, one behind the other, however the sides are built and copies are kept: a line and its answer each.
func plays(t *testing.T, x session.Setup, lines ...string) {
	t.Helper()
	for k := range 8 {
		x.PlainLeft, x.PlainRight = k&1 > 0, k&2 > 0
		x.Every, x.Room = []int{1, 5}[k>>2], []int{2, 9}[k>>2]
		s := opened(t, x)
		for i := 0; i < len(lines); i += 2 {
			does(t, s, lines[i], lines[i+1])
		}
	}
}

const (
	one = "proc main ( ) { print 1 ; }"
	two = "proc main ( ) { print 2 ; }"
	// Ticks: 1 enter main, 2 to 4 the marks 1 to 3; of each round the mark 4, f (4 ticks, deeper), the mark 5, and the mark 3 again; the mark 6, and that main is left: 27.
	squares = "proc main ( ) { var x ; var i ; while ( i < 3 ) { x = f ( i ) ; i = i + 1 ; } print x ; } proc f ( int n ) int { n = n * n ; return n ; }"
	calling = "proc main ( ) { f ( 2 ) ; print 0 ; } proc f ( int n ) { if ( 0 < n ) { f ( n - 1 ) ; } print n ; }"
)

func TestExamples(t *testing.T) { // DOC.md's ten, and the chapter's
	if s, f := session.Open(session.Setup{}); s != nil || f != (session.Fault{Which: 1, Code: api.ErrMain}) {
		t.Errorf("nothing: %v, %v", s, f)
	}
	x := setup(one, two, "")
	plays(t, x,
		"diverge", "event 0", "where both", "left 0 of 4: begin / right 0 of 4: begin",
		"run left", "left 4 of 4: over", "events left", "print 1 / end",
		"back left 1", "left 3 of 4: leave main (depth 1)", "stack left", "main 2",
		"list left 0", "> 3 }",
		"resync", "pairs 1 / left 0 to 1, right 0 to 1",
		"report", "entries 0", "foo", "error 101",
		"agree", "left 0 of 4: begin / right 0 of 4: begin")
	x.Fuel = 2
	plays(t, x, "run left", "left 3 of 3: over", "events left", "print 1 / fuel")
}

func TestWhere(t *testing.T) { // P18.2
	plays(t, setup(squares, calling, ""),
		"where left", "left 0 of 28: begin", "where right", "right 0 of 19: begin",
		"step both 1", "left 1 of 28: enter main (depth 1) / right 1 of 19: enter main (depth 1)",
		"goto left 6", "left 6 of 28: enter f (depth 2)", "goto left 9", "left 9 of 28: leave f (depth 2)",
		"where both", "left 9 of 28: leave f (depth 2) / right 1 of 19: enter main (depth 1)",
		"goto right 8", "right 8 of 19: at f 2 (depth 3)", "goto both 19", "left 19 of 28: at main 4 (depth 1) / right 19 of 19: over")
	x := setup(one, two, "")
	x.Fuel = 0
	plays(t, x, "where both", "left 0 of 1: begin / right 0 of 1: begin", "step left 1", "left 1 of 1: over", "events both", "fuel / none", "diverge", "none", "resync", "pairs 1")
}

func TestSteps(t *testing.T) { // P18.2: step, back, goto
	plays(t, setup(squares, one, ""),
		"step left 3", "left 3 of 28: at main 2 (depth 1)", "step left 0", "left 3 of 28: at main 2 (depth 1)",
		"step left -3", "left 3 of 28: at main 2 (depth 1)", "step left -9223372036854775808", "left 3 of 28: at main 2 (depth 1)",
		"step left 9223372036854775807", "left 28 of 28: over", "step left 1", "left 28 of 28: over",
		"back left 0", "left 28 of 28: over", "back left -1", "left 28 of 28: over",
		"back left 1", "left 27 of 28: leave main (depth 1)", "back left 22", "left 5 of 28: at main 4 (depth 1)",
		"back left -9223372036854775808", "left 5 of 28: at main 4 (depth 1)",
		"back left 9223372036854775807", "left 0 of 28: begin", "back left 1", "left 0 of 28: begin",
		"step both 4", "left 4 of 28: at main 3 (depth 1) / right 4 of 4: over",
		"back both 1", "left 3 of 28: at main 2 (depth 1) / right 3 of 4: leave main (depth 1)",
		"goto left 28", "left 28 of 28: over", "goto left 29", "error 80", "goto left -1", "error 80",
		"goto left 9223372036854775807", "error 80", "goto left -9223372036854775808", "error 80", "goto left 4294967296", "error 80",
		"where left", "left 28 of 28: over", "goto left 0", "left 0 of 28: begin",
		"goto both 4", "left 4 of 28: at main 3 (depth 1) / right 4 of 4: over",
		"goto both 5", "left 5 of 28: at main 4 (depth 1) / error 80", "where right", "right 4 of 4: over",
		"goto both 29", "error 80 / error 80", "where both", "left 5 of 28: at main 4 (depth 1) / right 4 of 4: over")
}

func TestNext(t *testing.T) { // P18.2: next, rnext, finish, rfinish
	plays(t, setup(squares, calling, ""),
		"next left", "left 1 of 28: enter main (depth 1)", "rnext left", "left 0 of 28: begin", "rnext left", "left 0 of 28: begin",
		"finish left", "left 1 of 28: enter main (depth 1)", "rfinish left", "left 0 of 28: begin",
		"goto left 5", "left 5 of 28: at main 4 (depth 1)", "next left", "left 10 of 28: at main 5 (depth 1)",
		"rnext left", "left 5 of 28: at main 4 (depth 1)", "finish left", "left 28 of 28: over",
		"next left", "left 28 of 28: over", "rnext left", "left 27 of 28: leave main (depth 1)",
		"next left", "left 28 of 28: over", "finish left", "left 28 of 28: over", "rfinish left", "left 27 of 28: leave main (depth 1)",
		"goto left 14", "left 14 of 28: at f 1 (depth 2)", "next left", "left 15 of 28: at f 2 (depth 2)",
		"finish left", "left 17 of 28: at main 5 (depth 1)", "goto left 14", "left 14 of 28: at f 1 (depth 2)",
		"rfinish left", "left 12 of 28: at main 4 (depth 1)", "rfinish left", "left 0 of 28: begin",
		"goto left 13", "left 13 of 28: enter f (depth 2)", "rnext left", "left 12 of 28: at main 4 (depth 1)",
		"goto left 9", "left 9 of 28: leave f (depth 2)", "next left", "left 10 of 28: at main 5 (depth 1)",
		// Deeper in the right one: 1 enter main, 2 main 1, 3 enter f, 4 f 1, 5 f 2, 6 enter f, 7 f 1, 8 f 2, 9 enter f, 10 f 1, 11 f 3, 12 leave f, and so on.
		"goto right 8", "right 8 of 19: at f 2 (depth 3)", "next right", "right 13 of 19: at f 3 (depth 3)",
		"rnext right", "right 8 of 19: at f 2 (depth 3)", "finish right", "right 15 of 19: at f 3 (depth 2)",
		"rfinish right", "right 2 of 19: at main 1 (depth 1)", "next right", "right 17 of 19: at main 2 (depth 1)",
		"next right", "right 18 of 19: leave main (depth 1)", "next right", "right 19 of 19: over",
		"finish both", "left 28 of 28: over / right 19 of 19: over", "rnext both", "left 27 of 28: leave main (depth 1) / right 18 of 19: leave main (depth 1)")
}

func TestBreaks(t *testing.T) { // P18.2: breaks
	x := setup(squares, one, "break left f 1 ; break left main 7 ; keep left f n ; break left f 3 when n == 4 ; break right main 1 ;")
	forth := []string{"left 7 of 28: at f 1 (depth 2)", "left 14 of 28: at f 1 (depth 2)", "left 21 of 28: at f 1 (depth 2)", "left 23 of 28: leave f (depth 2)", "left 27 of 28: leave main (depth 1)"}
	var lines []string
	for _, s := range forth {
		lines = append(lines, "run left", s)
	}
	lines = append(lines, "run left", "left 28 of 28: over", "run left", "left 28 of 28: over")
	for _, s := range slices.Backward(forth) {
		lines = append(lines, "rrun left", s)
	}
	lines = append(lines, "rrun left", "left 0 of 28: begin", "rrun left", "left 0 of 28: begin",
		"run both", "left 7 of 28: at f 1 (depth 2) / right 2 of 4: at main 1 (depth 1)",
		"run both", "left 14 of 28: at f 1 (depth 2) / right 4 of 4: over",
		"rrun both", "left 7 of 28: at f 1 (depth 2) / right 2 of 4: at main 1 (depth 1)",
		"rrun right", "right 0 of 4: begin",
		"goto left 8", "left 8 of 28: at f 2 (depth 2)", "rrun left", "left 7 of 28: at f 1 (depth 2)", "step left 3", "left 10 of 28: at main 5 (depth 1)", "run left", "left 14 of 28: at f 1 (depth 2)",
		"clear left", "ok", "run left", "left 28 of 28: over", "rrun left", "left 0 of 28: begin", "run right", "right 2 of 4: at main 1 (depth 1)",
		"clear both", "ok / ok", "rrun right", "right 0 of 4: begin", "run both", "left 28 of 28: over / right 4 of 4: over")
	plays(t, x, lines...)
	plays(t, setup(squares, one, "break left main 0 ; break left f 0 ; break left f 3 ;"),
		"run left", "left 1 of 28: enter main (depth 1)", "run left", "left 6 of 28: enter f (depth 2)", "run left", "left 9 of 28: leave f (depth 2)",
		"rrun left", "left 6 of 28: enter f (depth 2)", "rrun left", "left 1 of 28: enter main (depth 1)", "rrun left", "left 0 of 28: begin", "run right", "right 4 of 4: over")
}

func TestWhen(t *testing.T) { // P18.2: what is asked is worth 1, at the last frame's variables; what traps does not stop
	p := "proc main ( ) { var v [ 3 ] ; var bool b ; var k ; while ( k < 4 ) { k = k + 1 ; } v [ 1 ] = k ; b = true ; f ( ) ; } proc f ( ) { var k ; k = 9 ; print k ; }"
	keep := "keep left main v ; keep left main b ; keep left main k ; keep left f k ;"
	for _, c := range []struct{ when, want string }{
		{"4 when k == 3", "left 11 of 23: at main 4 (depth 1)"},
		{"4 when k == 4", "left 13 of 23: at main 4 (depth 1)"},
		{"4 when 12 / ( k - 1 ) < 7", "left 5 of 23: at main 4 (depth 1)"},
		{"4 when 12 / ( k - 1 ) == 12", "left 9 of 23: at main 4 (depth 1)"}, // it traps at 7
		{"4 when 12 / k == 12", "left 7 of 23: at main 4 (depth 1)"},
		{"5 when v [ k ] == 0 && 1 < k", "left 10 of 23: at main 5 (depth 1)"},
		{"4 when v [ k ] == 1", "left 23 of 23: over"}, // it traps at 11 and 13
		{"4 when true || v [ k ] == 1", "left 5 of 23: at main 4 (depth 1)"},
		{"8 when b", "left 16 of 23: at main 8 (depth 1)"},
		{"7 when b", "left 23 of 23: over"},
		{"7 when ! b && v [ 1 ] == 4", "left 15 of 23: at main 7 (depth 1)"},
		{"8 when true", "left 16 of 23: at main 8 (depth 1)"},
		{"8 when false", "left 23 of 23: over"},
	} {
		plays(t, setup(p, one, keep+"break left main "+c.when+" ;"), "run left", c.want)
		plays(t, setup(p, one, keep), "break left main "+c.when, "ok", "run left", c.want)
	}
	plays(t, setup(p, one, keep+"break left f 3 when k == 9 ;"), "run left", "left 20 of 23: at f 3 (depth 2)") // its own k
	plays(t, setup(p, one, keep+"break left f 2 when k == 4 ;"), "run left", "left 23 of 23: over")
}

func TestWatches(t *testing.T) { // P18.2: watches
	x := setup(squares, squares, "keep left main x ; watch left main x ; keep right main i ; keep right f n ; watch right f n ; watch right main i ;")
	plays(t, x,
		"run left", "left 17 of 28: at main 5 (depth 1)", "run left", "left 24 of 28: at main 5 (depth 1)", "run left", "left 28 of 28: over",
		"rrun left", "left 24 of 28: at main 5 (depth 1)", "rrun left", "left 17 of 28: at main 5 (depth 1)", "rrun left", "left 0 of 28: begin",
		"run right", "right 11 of 28: at main 3 (depth 1)", "run right", "right 18 of 28: at main 3 (depth 1)", "run right", "right 22 of 28: at f 2 (depth 2)",
		"run right", "right 25 of 28: at main 3 (depth 1)", "run right", "right 28 of 28: over",
		"rrun right", "right 25 of 28: at main 3 (depth 1)", "rrun right", "right 22 of 28: at f 2 (depth 2)", "rrun right", "right 18 of 28: at main 3 (depth 1)",
		"rrun right", "right 11 of 28: at main 3 (depth 1)", "rrun right", "right 0 of 28: begin",
		"goto both 17", "left 17 of 28: at main 5 (depth 1) / right 17 of 28: at main 5 (depth 1)",
		"rrun left", "left 0 of 28: begin", "run right", "right 18 of 28: at main 3 (depth 1)",
		"clear right", "ok", "rrun right", "right 0 of 28: begin")
}

// everyStop asks at which positions the left side stops, forward and back.
func everyStop(t *testing.T, program, decl string, input []int64, want ...int) {
	t.Helper()
	x := setup(program, one, decl)
	x.Input = input
	for k := range 8 {
		x.PlainLeft, x.Every, x.Room = k&1 > 0, []int{1, 3}[k>>1&1], []int{1, 4}[k>>2]
		s := opened(t, x)
		var got []int
		for !strings.HasSuffix(s.Do("run left")[0], "over") {
			got = append(got, position(t, s))
		}
		if !slices.Equal(got, want) {
			t.Errorf("%s: run %v, want %v", decl, got, want)
		}
		got = nil
		for !strings.HasSuffix(s.Do("rrun left")[0], "begin") {
			got = append(got, position(t, s))
		}
		slices.Reverse(got)
		if !slices.Equal(got, want) {
			t.Errorf("%s: rrun %v, want %v", decl, got, want)
		}
	}
}

func position(t *testing.T, s *session.Session) int {
	t.Helper()
	n, e := strconv.Atoi(strings.Fields(s.Do("where left")[0])[1])
	if e != nil {
		t.Fatal(e)
	}
	return n
}

func TestWatchesOfCalls(t *testing.T) { // P18.2: the tick ahead in the same call
	// 1 enter main, 2 main 1, 3 enter f (3), 4 f 1, 5 f 2, 6 enter f (2), 7 f 1, 8 f 2, 9 enter f (1), 10 f 1, 11 f 3, 12 f 4, 13 leave f, 14 f 3, 15 f 4, 16 leave f, 17 f 3, 18 f 4, 19 leave f, 20 leave main.
	deep := "proc main ( ) { f ( 3 ) ; } proc f ( int n ) { if ( 1 < n ) { f ( n - 1 ) ; } n = n * 2 ; print n ; }"
	everyStop(t, deep, "keep left f n ; watch left f n ;", nil, 12, 15, 18)
	// What one call ends with and the next one begins with are not held against each other.
	twice := "proc main ( ) { f ( 1 ) ; f ( 2 ) ; } proc f ( int n ) { n = n ; }"
	everyStop(t, twice, "keep left f n ; watch left f n ;", nil)
	// An answer is there at the tick behind the call: 1 enter main, 2 main 1, 3 main 2, 4 to 6 f, 7 main 3, 8 leave main.
	answer := "proc main ( ) { var x ; x = f ( ) ; print x ; } proc f ( ) int { return 5 ; }"
	everyStop(t, answer, "keep left main x ; watch left main x ;", nil, 7)
	everyStop(t, strings.Replace(answer, "5", "0", 1), "keep left main x ; watch left main x ;", nil)
	// Behind its var a variable is 0, and it was not in scope at the tick ahead: 1 enter main, 2 main 1, then of each round the marks 2, 3 (var y), 4, 5, and at the end 2 and that main is left.
	inner := "proc main ( ) { var k ; while ( k < 2 ) { var y ; y = 7 ; k = k + 1 ; } }"
	everyStop(t, inner, "keep left main y ; watch left main y ;", nil, 6, 10)
	everyStop(t, inner, "keep left main k ; watch left main k ;", nil, 7, 11)
	// What is read, a bool, and a parameter at the tick at which its call is left: 1 enter f is 5.
	reads := "proc main ( ) { var x ; read x ; read x ; f ( true ) ; } proc f ( bool b ) { b = false ; }"
	everyStop(t, reads, "keep left main x ; watch left main x ;", []int64{4, 4}, 4)
	everyStop(t, reads, "keep left main x ; watch left main x ;", []int64{0, -1}, 5)
	everyStop(t, reads, "keep left f b ; watch left f b ;", []int64{0, 0}, 8)
	everyStop(t, reads, "keep left f b ; watch left f b ; keep left main x ; watch left main x ; break left main 4 ; break left f 0 when ! b ;", []int64{0, 9}, 5, 8)
	// One name, two procedures.
	both := "proc main ( ) { var x ; x = 1 ; f ( ) ; x = 2 ; } proc f ( ) { var x ; x = 3 ; }"
	everyStop(t, both, "keep left main x ; watch left main x ; keep left f x ;", nil, 4) // where main is left x is not in scope
	everyStop(t, strings.Replace(both, "x = 2 ;", "x = 2 ; x = 2 ;", 1), "keep left main x ; watch left main x ; keep left f x ;", nil, 4, 10)
	everyStop(t, both, "keep left f x ; watch left f x ; keep left main x ;", nil)
	// At f's last tick x is not in scope any more; with a statement behind it is.
	everyStop(t, strings.Replace(both, "x = 3 ;", "x = 3 ; print x ;", 1), "keep left f x ; watch left f x ;", nil, 8)
}

func TestStack(t *testing.T) { // P18.2
	x := setup(squares, calling, "keep left main x ; keep left main i ; keep left f n ; keep right f n ;")
	plays(t, x,
		"stack both", "main -1 / main -1", "goto left 15", "left 15 of 28: at f 2 (depth 2)", "stack left", "f 2: n = 1 / main 4: x = 0, i = 1",
		"goto right 8", "right 8 of 19: at f 2 (depth 3)", "stack right", "f 2: n = 1 / f 2: n = 2 / main 1",
		"stack both", "f 2: n = 1 / main 4: x = 0, i = 1 / f 2: n = 1 / f 2: n = 2 / main 1",
		"goto both 19", "left 19 of 28: at main 4 (depth 1) / right 19 of 19: over", "stack both", "main 4: x = 1, i = 2 / none")
	x = setup("proc main ( ) { var x ; x = 4 ; assert false ; }", one, "")
	for _, plain := range []bool{true, false} {
		x.PlainLeft = plain
		s := opened(t, x)
		s.Do("goto left 4")
		does(t, s, "stack left", map[bool]string{true: "main 3: x = 4", false: "main 3: x = ?"}[plain])
		s.Do("step left 1")
		does(t, s, "stack left", "main 3: x = ?")
	}
}

func TestList(t *testing.T) { // P18.2
	plays(t, setup(squares, one, ""),
		"goto left 6", "left 6 of 28: enter f (depth 2)",
		"list left 0", "> 10 proc f ( int n ) int {",
		"list left 1", "   9 } / > 10 proc f ( int n ) int { / "+"  11   n = n * n ;",
		"list left 3", "   7   } /    8   print x ; /    9 } / > 10 proc f ( int n ) int { /   11   n = n * n ; /   12   return n ; /   13 }",
		"list left -1", "error 1", "list left -9223372036854775808", "error 1",
		"goto left 10", "left 10 of 28: at main 5 (depth 1)", "list left 1", "  5     x = f ( i ) ; / > 6     i = i + 1 ; /   7   }",
		"goto right 1", "right 1 of 4: enter main (depth 1)", "list right 9223372036854775807", "> 1 proc main ( ) { /   2   print 1 ; /   3 }",
		"list both 0", "> 6     i = i + 1 ; / > 1 proc main ( ) {",
		"goto right 4", "right 4 of 4: over", "list right 1", "none", "list right -1", "none", "list both -1", "error 1 / none",
		"goto left 0", "left 0 of 28: begin", "list left 1", "error 80", "list left -1", "error 1") // there is a frame, but it has no mark yet
	plays(t, setup("proc main ( ) { assert false ; }", one, ""), "run left", "left 3 of 3: over", "list left 0", "> 2   assert false ;")
	deep := "proc main ( ) { print " + strings.Repeat("- ", 57) + "( 1 + 2 * 3 ) ; }"
	plays(t, setup(deep, one, ""), "step left 1", "left 1 of 4: enter main (depth 1)", "list left 0", "error 31", "list left -1", "error 1", "run left", "left 4 of 4: over", "list left 0", "none") // 2 * 3 in brackets is too deep
}

func TestEval(t *testing.T) { // P18.2
	p := "proc main ( ) { var v [ 2 ] ; var bool b ; v [ 1 ] = 7 ; b = v [ 1 ] == 7 ; f ( 3 ) ; } proc f ( int b ) { var c ; c = b ; }"
	x := setup(p, two, "keep left main v ; keep left main b ; keep left f b ; keep left f c ;")
	plays(t, x,
		"eval left 1", "error 81", "eval left x", "error 81", "eval left 1 +", "error 30", "eval left ", "error 30", "eval left @", "error 20", "eval left 01", "error 20",
		"eval both true", "error 81 / error 81",
		"goto left 6", "left 6 of 12: at main 5 (depth 1)",
		"eval left 1+2*3", "7", "eval left  - 5", "-5", "eval left v [ 1 ]", "7", "eval left v[0]", "0", "eval left b", "true", "eval left ! b", "false",
		"eval left v [ 1 ] == 7 && b", "true", "eval left b == false", "false", "eval left v [ 2 ]", "trap 2", "eval left v [ - 1 ]", "trap 2", "eval left 1 / 0", "trap 1", "eval left 1 % ( v [ 0 ] ) == 1", "trap 1",
		"eval left b || 1 / 0 == 1", "true", "eval left 9223372036854775807 + 1", "-9223372036854775808", "eval left 9223372036854775808", "error 20",
		"eval left v", "error 41", "eval left b [ 0 ]", "error 41", "eval left b + 1", "error 41", "eval left c", "error 40", "eval left nope", "error 40", "eval left nope + true", "error 40", "eval left true + nope", "error 40",
		"eval left 1 2", "error 30", "eval left 1 # what it is", "1", "eval left ( 1 )", "1", "eval left 1 ;", "error 30",
		"eval left "+strings.Repeat("( ", 59)+"1"+strings.Repeat(" )", 59), "1", "eval left "+strings.Repeat("( ", 60)+"1"+strings.Repeat(" )", 60), "error 31",
		"eval left 1"+strings.Repeat(" ", api.MaxSource-1), "1", "eval left 1"+strings.Repeat(" ", api.MaxSource), "error 2",
		"goto left 12", "left 12 of 12: over", "eval left 1", "error 81", "eval left )", "error 30")
	y := x
	y.Left = strings.Replace(p, "c = b ;", "c = b ; print c ;", 1)
	plays(t, y,
		"goto both 2", "left 2 of 13: at main 1 (depth 1) / right 2 of 4: at main 1 (depth 1)", "eval left b", "error 40", "eval both 1", "1 / 1", "eval both 1 == 1", "true / true", "eval both -", "error 30 / error 30",
		"goto left 3", "left 3 of 13: at main 2 (depth 1)", "eval left v [ 1 ]", "0", "eval both v [ 1 ]", "0 / error 40", "eval left b", "error 40",
		"goto left 7", "left 7 of 13: enter f (depth 2)", "eval left b", "3", "eval left c", "error 40", "eval left v [ 0 ]", "error 40",
		"goto left 10", "left 10 of 13: at f 3 (depth 2)", "eval left c + b", "6", "eval left c == b", "true",
		"goto left 11", "left 11 of 13: leave f (depth 2)", "eval left c", "error 40", "eval left b", "3",
		"goto left 13", "left 13 of 13: over", "eval left 1", "error 81", "eval left )", "error 30")
}

func TestEvalGone(t *testing.T) { // P18.2: what an optimised build can not tell
	p := "proc main ( ) { var x ; var y ; var v [ 2 ] ; x = 1 ; y = x ; print y ; print 0 ; }"
	x := setup(p, p, "keep right main v ;")
	s := opened(t, x)
	s.Do("goto both 8") // print 0: nothing is needed any more
	for _, c := range []struct{ line, want string }{
		{"eval left x", "error 81"}, {"eval left true || x == 1", "error 81"}, {"eval left x / 0", "error 81"}, {"eval left v [ 9 ]", "error 81"}, {"eval left v [ x ]", "error 81"},
		{"eval left 1 / 0", "trap 1"}, {"eval left x + true", "error 41"}, {"eval left x + nope", "error 40"}, {"eval left x +", "error 30"}, {"eval left 2", "2"},
		{"eval right v [ 1 ]", "0"}, {"eval right v [ 2 ]", "trap 2"}, {"eval right v [ x ]", "error 81"}, {"eval right y", "error 81"},
	} {
		does(t, s, c.line, c.want)
	}
	s.Do("goto both 7") // print y
	does(t, s, "eval both y", "1 / 1")
	does(t, s, "eval both x", "error 81 / error 81")
	x.PlainLeft = true
	s = opened(t, x)
	s.Do("goto both 8")
	does(t, s, "eval both x + y", "2 / error 81")
	does(t, s, "eval both v [ x ]", "0 / error 81")
	s.Do("step both 9")
	does(t, s, "eval both x", "error 81 / error 81")
}

func TestEvents(t *testing.T) { // P18.2: those that there are
	x := setup("proc main ( ) { var x ; read x ; print x ; read x ; read x ; }", one, "")
	x.Input = []int64{-4, 9223372036854775807}
	plays(t, x,
		"events left", "none", "events both", "none / none", "goto left 3", "left 3 of 7: at main 2 (depth 1)", "events left", "none",
		"step left 1", "left 4 of 7: at main 3 (depth 1)", "events left", "read -4", "step left 1", "left 5 of 7: at main 4 (depth 1)", "events left", "read -4 / print -4",
		"run both", "left 7 of 7: over / right 4 of 4: over", "events both", "read -4 / print -4 / read 9223372036854775807 / trap 5 / print 1 / end", "back left 2", "left 5 of 7: at main 4 (depth 1)", "events left", "read -4 / print -4")
}
