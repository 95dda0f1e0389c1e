package session_test

import (
	"strings"
	"testing"

	"parallax/session"
)

func TestDiverge(t *testing.T) { // P18.2: the events of the two whole runs; agree goes to where those end that both have
	three := "proc main ( ) { print 1 ; print 2 ; print 3 ; }"
	for _, c := range []struct{ left, right, diverge, agree string }{
		{one, one, "none", "left 4 of 4: over / right 4 of 4: over"},
		{one, two, "event 0", "left 0 of 4: begin / right 0 of 4: begin"},
		{three, three, "none", "left 6 of 6: over / right 6 of 6: over"},
		{three, one, "event 1", "left 3 of 6: at main 2 (depth 1) / right 3 of 4: leave main (depth 1)"},
		{one, three, "event 1", "left 3 of 4: leave main (depth 1) / right 3 of 6: at main 2 (depth 1)"},
		{three, "proc main ( ) { print 1 ; print 2 ; print 4 ; }", "event 2", "left 4 of 6: at main 3 (depth 1) / right 4 of 6: at main 3 (depth 1)"},
		{three, "proc main ( ) { var x ; print 1 ; x = 4 ; print 2 ; x = 5 ; x = 6 ; assert false ; }", "event 2", "left 4 of 6: at main 3 (depth 1) / right 6 of 9: at main 5 (depth 1)"},
		{one, "proc main ( ) { print 1 ; assert false ; }", "event 1", "left 3 of 4: leave main (depth 1) / right 3 of 4: at main 2 (depth 1)"},
		{"proc main ( ) { assert false ; }", "proc main ( ) { assert true ; print 1 / 0 ; }", "event 0", "left 0 of 3: begin / right 0 of 4: begin"},
		{"proc main ( ) { }", "proc main ( ) { var x ; }", "none", "left 3 of 3: over / right 4 of 4: over"},
	} {
		plays(t, setup(c.left, c.right, ""),
			"diverge", c.diverge, "agree", c.agree, "diverge", c.diverge, "where both", c.agree,
			"step both 1", strings.Join(stepped(t, c.left, c.right, c.agree), " / "), "agree", c.agree,
			"goto both 1", "left 1 of "+end(c.agree, 0)+": enter main (depth 1) / right 1 of "+end(c.agree, 1)+": enter main (depth 1)", "diverge", c.diverge, "agree", c.agree)
	}
	x := setup("proc main ( ) { while ( true ) { print 1 ; } }", "proc main ( ) { while ( 1 < 2 ) { print 1 ; } }", "")
	x.Fuel = 6
	plays(t, x, "diverge", "none", "agree", "left 7 of 7: over / right 7 of 7: over", "events left", "print 1 / print 1 / fuel")
}

// end is the last position of the k-th of two places.
func end(places string, k int) string {
	l := strings.Fields(strings.Split(places, " / ")[k])
	return strings.TrimSuffix(l[3], ":")
}

// stepped are the places one position behind others, by a session of its own.
func stepped(t *testing.T, left, right, places string) []string {
	t.Helper()
	s := opened(t, setup(left, right, ""))
	var l []string
	for _, p := range strings.Split(places, " / ") {
		words := strings.Fields(p)
		s.Do("goto " + words[0] + " " + words[1])
		l = append(l, s.Do("step "+words[0]+" 1")...)
	}
	return l
}

func TestResync(t *testing.T) { // P18.2: the matching of all events by the limit, and its regions
	a := "proc main ( ) { print 1 ; print 2 ; print 3 ; print 4 ; }"
	b := "proc main ( ) { print 1 ; print 3 ; print 5 ; print 4 ; print 6 ; }"
	for _, c := range []struct {
		left, right string
		limit       int
		want        string
	}{
		{a, a, 0, "pairs 5"},
		{a, a, -5, "pairs 5"},
		{a, b, 20, "pairs 4 / left 1 to 2, right 1 to 1 / left 3 to 3, right 2 to 3 / left 4 to 4, right 4 to 5"},
		{b, a, 20, "pairs 4 / left 1 to 1, right 1 to 2 / left 2 to 3, right 3 to 3 / left 4 to 5, right 4 to 4"},
		{a, b, 19, "pairs 1, truncated / left 1 to 5, right 1 to 6"},
		{a, b, 0, "pairs 1, truncated / left 1 to 5, right 1 to 6"},
		{a, b, -1 << 63, "pairs 1, truncated / left 1 to 5, right 1 to 6"},
		{one, two, 4, "pairs 1 / left 0 to 1, right 0 to 1"},
		{one, two, 3, "pairs 0, truncated / left 0 to 2, right 0 to 2"},
		{one, "proc main ( ) { assert false ; }", 1 << 62, "pairs 0 / left 0 to 2, right 0 to 1"},
		{"proc main ( ) { var x ; read x ; }", "proc main ( ) { var x ; read x ; print x ; }", 9, "pairs 2 / left 1 to 1, right 1 to 2"},
	} {
		x := setup(c.left, c.right, "")
		x.Limit, x.Input = c.limit, []int64{7}
		plays(t, x, "resync", c.want, "goto both 2", places(t, x, 2), "resync", c.want, "where both", places(t, x, 2))
	}
}

// places are those of both sides at a position, by a session of its own.
func places(t *testing.T, x session.Setup, p int) string {
	t.Helper()
	s := opened(t, x)
	for range p {
		s.Do("step both 1")
	}
	return strings.Join(s.Do("where both"), " / ")
}

func TestReport(t *testing.T) { // P18.2: the entries of the report, by the declarations, input, fuel and limit
	left := "proc main ( ) { var x ; read x ; x = f ( x , true ) ; print x ; } proc f ( int a , bool b ) int { a = a + 1 ; return a * 2 ; }"
	right := "proc main ( ) { var x ; read x ; x = g ( x , x < 0 ) ; print x ; } proc g ( int a , bool b ) int { return a * 2 ; }"
	x := setup(left, right, "pair main main ; pair f g ; same f ( a ) g ( a ) ; same f ( b ) g ( b ) ; break left f 1 ;")
	x.Input = []int64{-3}
	want := "left 8 right 7 same 0: -2 and -3 / left 8 right 7 answer: -4 and -6 / entries 2"
	plays(t, x, "report", want, "goto both 3", places(t, x, 3), "report", want, "where both", places(t, x, 3), "clear both", "ok / ok", "break left f 2", "ok", "report", want)
	x.Input = []int64{3}
	plays(t, x, "report", "left 5 right 5 same 1: 1 and 0 / left 8 right 7 same 0: 4 and 3 / left 8 right 7 same 1: 1 and 0 / left 8 right 7 answer: 8 and 6 / entries 4")
	x.Fuel = 6
	plays(t, x, "report", "left 5 right 5 same 1: 1 and 0 / entries 1")
	x.Fuel = 0
	plays(t, x, "report", "entries 0")
	x.Fuel, x.Decl = 99, ""
	plays(t, x, "report", "entries 0")
	calls := "proc main ( ) { f ( 1 ) ; f ( 2 ) ; } proc f ( int a ) { }"
	x = setup(calls, "proc main ( ) { h ( 0 ) ; f ( 2 ) ; } proc f ( int a ) { } proc h ( int a ) { }", "pair main main ; pair f f ; same f ( a ) f ( a ) ;")
	x.Limit = 4
	plays(t, x, "report", "left 3 right 6 same 0: 1 and 2 / left 4 right 7 same 0: 1 and 2 / entries 2")
	x.Limit = 3
	plays(t, x, "report", "entries 0, truncated")
	arrays := "proc main ( ) { f ( ) ; } proc f ( ) int { var v [ 3 ] ; v [ 1 ] = 5 ; return v [ 1 ] ; }"
	x = setup(arrays, strings.Replace(arrays, "= 5", "= - 5", 1), "pair main main ; pair f f ; same f ( v ) f ( v ) ;")
	plays(t, x, "report", "left 7 right 7 answer: 5 and -5 / entries 1") // v is in scope neither where f is entered nor where it is left
}
