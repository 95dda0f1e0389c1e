package session_test

import (
	"strconv"
	"strings"
	"testing"

	"parallax/api"
	"parallax/session"
)

func TestBreakCommand(t *testing.T) { // P18.2: break, its errors in their order
	x := setup(squares, calling, "keep left f n ;")
	plays(t, x,
		"break left f 1", "ok", "break right f 1 when true", "ok", "run both", "left 7 of 28: at f 1 (depth 2) / right 4 of 19: at f 1 (depth 2)",
		"break left f 3 when n == 1", "ok", "clear right", "ok", "run both", "left 14 of 28: at f 1 (depth 2) / right 19 of 19: over", "run left", "left 16 of 28: leave f (depth 2)",
		"break left f 2 when n == 4 && n * n == 16", "ok", "run left", "left 21 of 28: at f 1 (depth 2)", "run left", "left 22 of 28: at f 2 (depth 2)", "run left", "left 28 of 28: over",
		"rrun left", "left 22 of 28: at f 2 (depth 2)",
		"break both f 1", "error 101", "break f 1", "error 101", "break left", "error 101", "break left ", "error 101", "break", "error 101", "break  left f 1", "error 101", "break Left f 1", "error 101",
		"break left  f 2", "ok", "break left f 2 # why not", "error 30", "break left f 2 # why not\n", "ok", "break left f 2 ", "ok",
		"break left   ", "error 30", "break left f", "error 30", "break left f -1", "error 30", "break left f 1 when", "error 30", "break left f 1 when n <", "error 30", "break left f 1 ;", "error 30", "break left f 1 2", "error 30",
		"break left f 1 when @", "error 20", "break left f 01", "error 20", "break left if 1", "error 30",
		"break left f 1 when "+strings.Repeat("( ", 60)+"true"+strings.Repeat(" )", 60), "error 31",
		"break left f 1"+strings.Repeat(" ", api.MaxSource), "error 2", "break left f 1 "+strings.Repeat("#", api.MaxSource-20)+"\n", "ok",
		"break left f 1 ; break left f 2", "error 101", "break left f 1 ; watch left f n", "error 101", "break left f 1 ; keep left main x", "error 101", "break left f 1 ; pair main main", "error 101", "break left f 1 ; same f ( n ) f ( n )", "error 101",
		"break left nope 1", "error 40", "break left f 4", "error 80", "break left f 9223372036854775807", "error 80", "break left main 8", "error 80", "break right main 4", "error 80",
		"break left f 1 when x == 1", "error 40", "break left f 1 when n", "error 41", "break left f 1 when n == true", "error 41", "break left main 1 when i == 0", "error 40",
		"break left nope 1 when @", "error 20", "break left nope 1 ; break left f 1", "error 101", "break left nope 9 when true + 1", "error 40", "break left f 9 when true + 1", "error 80")
	s := opened(t, x)
	does(t, s, "break left main 3 when x == 0", "error 102")
	does(t, s, "break left main 3 when true || x == 0", "error 102")
	does(t, s, "break right f 1 when n == 2", "error 102") // the left f's n is kept
	does(t, s, "break right f 1 when true", "ok")
	x.PlainLeft = true
	s = opened(t, x)
	does(t, s, "break left main 3 when x == 0", "ok")
	does(t, s, "break right f 1 when n == 2", "error 102")
	does(t, s, "run both", "left 4 of 28: at main 3 (depth 1) / right 19 of 19: over")
	x.PlainRight = true
	does(t, opened(t, x), "break right f 1 when n == 2", "ok")
}

func TestWatchCommand(t *testing.T) { // P18.2: watch, its errors in their order
	arrays := "proc main ( ) { var v [ 2 ] ; var x ; x = 1 ; v [ x ] = x ; }"
	x := setup(arrays, squares, "pair main main ; same main ( x ) main ( x ) ; keep right f n ; keep left main v ;")
	plays(t, x,
		"watch left main x", "ok", "watch right f n", "ok", "run both", "left 5 of 7: at main 4 (depth 1) / right 22 of 28: at f 2 (depth 2)", "run both", "left 7 of 7: over / right 28 of 28: over",
		"watch right main x", "ok", "rrun right", "right 24 of 28: at main 5 (depth 1)", "rrun both", "left 5 of 7: at main 4 (depth 1) / right 22 of 28: at f 2 (depth 2)",
		"watch both main x", "error 101", "watch left", "error 101", "watch left ", "error 101", "watch main x", "error 101", "watch", "error 101",
		"watch left main", "error 30", "watch left main x x", "error 30", "watch left main 1", "error 30", "watch left main @", "error 20", "watch left main x ;", "error 30",
		"watch left main x ; watch left main x", "error 101", "watch left main x ; break left main 1", "error 101",
		"watch left f n", "error 40", "watch left main n", "error 40", "watch left main v", "error 41", "watch right f x", "error 40")
	s := opened(t, x)
	does(t, s, "watch right main i", "error 102")
	does(t, s, "run right", "right 28 of 28: over")
	x.PlainRight = true
	s = opened(t, x)
	does(t, s, "watch right main i", "ok")
	does(t, s, "run right", "right 11 of 28: at main 3 (depth 1)")
	x.Decl = ""
	s = opened(t, x)
	does(t, s, "watch left main x", "error 102")
	does(t, s, "watch left main v", "error 41")
}

func TestMostBreaks(t *testing.T) { // P18.2: as many as there may be, on a side, of each kind
	for _, c := range []struct{ word, left, right string }{{"break", "f 1", "f 2 when true"}, {"watch", "f n", "f n"}} {
		declared := strings.Repeat(c.word+" left "+c.left+" ; ", 25)
		x := setup(squares, calling, "keep left f n ; keep right f n ; "+declared)
		for k := range 4 {
			x.PlainLeft, x.PlainRight = k&1 > 0, k&2 > 0
			s := opened(t, x)
			for i := range 42 {
				left, right := "ok", "ok"
				if i >= 15 {
					left = "error 2"
				}
				if i >= 40 {
					right = "error 2"
				}
				does(t, s, c.word+" left "+c.left, left)
				does(t, s, c.word+" right "+c.right, right)
			}
			does(t, s, c.word+" left nope 1", map[string]string{"break": "error 2", "watch": "error 30"}[c.word]) // ahead of whether it fits
			does(t, s, c.word+" left "+c.left+" ; ", "error 30")
			does(t, s, c.word+" left "+c.left+" ; keep left f n", "error 101")
			other := map[string]string{"break": "watch left f n", "watch": "break left f 1"}[c.word]
			does(t, s, other, "ok")
			does(t, s, "clear left", "ok")
			does(t, s, c.word+" left "+c.left, "ok")
			does(t, s, c.word+" right "+c.right, "error 2")
		}
	}
	all := setup(squares, one, "")
	s := opened(t, all)
	long := "f 1" + strings.Repeat(" ; break left f 1", 39)
	does(t, s, "break left "+long, "error 101")
	does(t, s, "break left "+long+" ; break left f 1", "error 2") // no declarations have so many
}

func TestEachBreakStops(t *testing.T) { // P18.2: the last one of many, too
	p := "proc main ( ) {" + strings.Repeat(" print 1 ;", 60) + " }"
	s := opened(t, setup(p, p, ""))
	for i := range 40 {
		does(t, s, "break left main "+strconv.Itoa(60-i), "ok")
	}
	s.Do("goto left 5")
	for i := range 40 {
		does(t, s, "run left", "left "+strconv.Itoa(22+i)+" of 63: at main "+strconv.Itoa(21+i)+" (depth 1)")
	}
	does(t, s, "run left", "left 63 of 63: over")
}

func TestNoCommand(t *testing.T) { // P18.2, P18.4
	x := setup(squares, squares, "break left f 1 ;")
	s := opened(t, x)
	s.Do("goto left 9")
	s.Do("goto right 4")
	for _, line := range []string{
		"", " ", "foo", "foo left", "foo left 1", "foo both 1 2", "where", "where ", "where middle", "where left ", "where left right", " where left", "where  left", "where\tleft", "where left\n", "Where left", "where LEFT", "where leftboth",
		"step left", "step left ", "step left x", "step left 1 ", "step left  1", "step left 1 2", "step left +1", "step left 01", "step left -0", "step left 9223372036854775808", "step left -9223372036854775809", "step 1", "step", "step both", "step left 1\n",
		"back left", "back left 1x", "back 1 left", "goto left", "goto 1", "goto both", "goto left one", "list", "list left", "list left ", "list left n", "list left 1 1",
		"next", "next left 1", "next left ", "rnext", "rnext 1", "finish", "finish left 1", "rfinish both 1", "run", "run left 1", "run ", "rrun", "rrun right ", "rrun left 2", "stack", "stack left 1", "events", "events left 1", "events left ",
		"diverge left", "diverge ", "diverge both", "agree both", "agree ", "agree 1", "resync left", "resync ", "report both", "report ", "eval", "eval left", "eval 1 + 1", "eval middle 1", "clear", "clear left 1", "clear all", "clear both ", "\x00", "where left\x00", "\xff", "ok", "none", "error 101",
	} {
		does(t, s, line, "error 101")
		does(t, s, "where both", "left 9 of 28: leave f (depth 2) / right 4 of 28: at main 3 (depth 1)")
	}
	does(t, s, "rrun left", "left 7 of 28: at f 1 (depth 2)") // the break is still there
}

func TestNoSession(t *testing.T) { // P18.2
	var s *session.Session
	for _, line := range []string{"", "foo", "where left", "where both", "diverge", "agree", "resync", "report", "eval left 1", "break left main 1", "clear both", "list left 1"} {
		does(t, s, line, "error 100")
		does(t, new(session.Session), line, "error 100")
	}
}
