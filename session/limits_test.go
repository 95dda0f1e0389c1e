package session_test

import (
	"slices"
	"strconv"
	"strings"
	"testing"

	"parallax/api"
	"parallax/session"
)

func TestLongestRuns(t *testing.T) { // P1, P18.2: with as much fuel as there may be, whatever copies there are
	left := "proc main ( ) { var x ; var y ; while ( true ) { x = f ( x ) ; if ( x % 1000 == 0 ) { y = x / 1000 ; print y ; } } } proc f ( int a ) int { return a + 1 ; }"
	right := strings.Replace(left, "print y ;", "if ( y == 100 ) { print 0 - y ; } else { print y ; }", 1)
	x := setup(left, right, "keep left main x ; keep left main y ; watch left main y ; keep right main x ; break right main 4 when x == 123456 ; pair main main ; pair f f ; same f ( a ) f ( a ) ;")
	x.Fuel, x.Limit = api.MaxFuel, 0
	for k := range 4 {
		x.PlainLeft, x.PlainRight = k&1 > 0, k&2 > 0
		x.Every, x.Room = []int{1 << 12, 1, 1 << 12, 1000}[k], []int{1, 3, 100, 9}[k]
		s := opened(t, x)
		// Ticks: three to begin with; then six a round, the while's, the call's, three of f, the if's; of each thousandth one two more, on the right three.
		does(t, s, "run left", "left 6005 of 1048577: at main 7 (depth 1)")
		does(t, s, "run left", "left 12007 of 1048577: at main 7 (depth 1)")
		does(t, s, "rrun left", "left 6005 of 1048577: at main 7 (depth 1)")
		does(t, s, "run right", "right "+strconv.Itoa(3+6*123456+3*123+2)+" of 1048577: at main 4 (depth 1)")
		does(t, s, "eval right x", "123456")
		does(t, s, "clear left", "ok")
		does(t, s, "run left", "left 1048577 of 1048577: over")
		does(t, s, "rrun left", "left 0 of 1048577: begin")
		does(t, s, "diverge", "event 99")
		s.Do("agree")
		does(t, s, "eval both x", "99000 / 99000")
	}
}

func TestDeepestCalls(t *testing.T) { // P18.2: as many frames as there may be
	p := "proc main ( ) { var x ; x = f ( 1 ) ; } proc f ( int n ) int { var y ; if ( n < 49 ) { y = f ( n + 1 ) ; } else { y = 7 ; } return y + 1 ; }"
	x := setup(p, strings.Replace(p, "n < 49", "n < 50", 1), "keep left f y ; watch left f y ; keep left main x ; keep right f n ; break right f 2 when n == 49 ;")
	x.Fuel = 1000
	for k := range 4 {
		x.PlainLeft, x.PlainRight = k&1 > 0, k&2 > 0
		s := opened(t, x)
		does(t, s, "run right", "right 198 of 200: at f 2 (depth 50)")
		if l := s.Do("stack right"); len(l) != 50 || !strings.HasPrefix(l[0], "f 2: n = 49") || !strings.HasPrefix(l[48], "f 3: n = 1") || !strings.HasPrefix(l[49], "main 2") {
			t.Errorf("%q", l)
		}
		does(t, s, "run right", "right 200 of 200: over")
		does(t, s, "events right", "trap 4")
		for i := range 49 { // the y of each call changes once, the last one's first
			does(t, s, "run left", "left "+strconv.Itoa(200+2*i)+" of 299: at f 5 (depth "+strconv.Itoa(50-i)+")")
			if l := s.Do("stack left"); len(l) != 50-i || !strings.Contains(l[0], "y = "+strconv.Itoa(7+i)) {
				t.Fatalf("%d: %q", i, l)
			}
		}
		if l := s.Do("run left"); !strings.HasSuffix(l[0], "over") {
			t.Errorf("%q", l)
		}
	}
}

func TestWidestExpressions(t *testing.T) { // P1: as deep, and as many, as there may be
	p := "proc main ( ) { var x ; x = 3 ; print x ; }"
	deep := strings.Repeat("( ", 59) + "x" + strings.Repeat(" )", 59)
	wide := "x" + strings.Repeat("+x", 1900)
	s := opened(t, setup(p, p, "keep left main x ; keep right main x ; break left main 3 when "+deep+" == 3 ; break right main 3 when "+wide+" == 5703 ;"))
	does(t, s, "run both", "left 4 of 6: at main 3 (depth 1) / right 4 of 6: at main 3 (depth 1)")
	does(t, s, "eval left "+deep, "3")
	does(t, s, "eval both "+wide, "5703 / 5703")
	does(t, s, "eval both x"+strings.Repeat("+x", 2000), "error 2 / error 2")
	does(t, s, "break left main 3 when "+wide+" != 5703", "ok")
	does(t, s, "break left main 3 when ( "+deep+" ) == 3", "error 31")
	does(t, s, strings.Repeat("where left ", 1<<16), "error 101")
	does(t, s, "eval left "+strings.Repeat("(", 1<<20), "error 2")
	does(t, s, "break left "+strings.Repeat("x ", 1<<20), "error 2")
}

func TestAnswersAreNew(t *testing.T) { // rule 3: what is answered shares nothing
	x := setup(squares, calling, "pair main main ; break left f 1 ;")
	s := opened(t, x)
	s.Do("goto both 9")
	for _, line := range []string{"where both", "stack both", "list both 3", "events both", "eval both 1", "diverge", "resync", "report", "foo", "goto left 99"} {
		first := s.Do(line)
		kept := slices.Clone(first)
		second := s.Do(line)
		for i := range first {
			first[i] = "changed"
		}
		if !slices.Equal(second, kept) || !slices.Equal(s.Do(line), kept) {
			t.Errorf("%q: %q, then %q", line, kept, second)
		}
	}
}

func FuzzSession(f *testing.F) { // P1, P18.1, P18.2, by the second reading
	commands := "run left|stack both|eval left n|rrun left|break left f 1 when n == 1|watch right main x|run both|list both 2|events both|agree|resync|report|finish both|where both"
	f.Add(squares, calling, "keep left f n ; break left f 1 when n < 2 ;", commands, 99, true)
	f.Add(one, two, "pair main main ;", commands, 3, false)
	f.Add("", "x", "@", "", -1, false)
	f.Fuzz(func(t *testing.T, left, right, decl, lines string, fuel int, plain bool) {
		if fuel > 4096 || len(lines) > 2000 {
			return
		}
		x := session.Setup{Left: left, Right: right, Decl: decl, PlainLeft: plain, Input: []int64{1, -1, 0}, Fuel: fuel, Every: 3, Room: 3, Limit: 50}
		s, got := session.Open(x)
		again, want := secondOpen(x)
		if got != want || (s == nil) != (want.Code != api.OK) {
			t.Fatalf("%v, want %v", got, want)
		}
		if s == nil {
			return
		}
		for _, line := range strings.Split(lines, "|") {
			if got, want := s.Do(line), again.do(line); !slices.Equal(got, want) {
				t.Fatalf("%q: %q, want %q", line, got, want)
			}
		}
	})
}
