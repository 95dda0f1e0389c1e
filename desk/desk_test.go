package desk_test

import (
	"slices"
	"strings"
	"testing"

	"parallax/api"
	"parallax/desk"
)

// says asks what a line answers: texts with a / between.
func says(t *testing.T, d *desk.Desk, line, want string) {
	t.Helper()
	if got := strings.Join(d.Line(line), " / "); got != want {
		t.Errorf("%.200q: %q; want %q", line, got, want)
	}
}

// plays asks what lines answer on a new desk, one behind the other: a line and its answer each.
func plays(t *testing.T, lines ...string) *desk.Desk {
	t.Helper()
	d := desk.New()
	for i := 0; i < len(lines); i += 2 {
		says(t, d, lines[i], lines[i+1])
	}
	return d
}

const none = "fault 1 0 42" // what open answers at first: there is no main

func TestExamples(t *testing.T) { // DOC.md's ten, and the chapter's
	plays(t,
		"open", none,
		"left proc main ( ) { print 1 ; }", "ok", "right proc main ( ) { print 2 ; }", "ok", "open", "ok",
		"do diverge", "event 0", "do where both", "left 0 of 4: begin / right 0 of 4: begin",
		"do run left", "left 4 of 4: over", "do events left", "print 1 / end",
		"do back left 1", "left 3 of 4: leave main (depth 1)", "do stack left", "main 2",
		"do list left 0", "> 3 }",
		"do resync", "pairs 1 / left 0 to 1, right 0 to 1",
		"do report", "entries 0", "do foo", "error 101",
		"do agree", "left 0 of 4: begin / right 0 of 4: begin",
		"fuel 2", "ok", "open", "ok", "do run left", "left 3 of 3: over", "do events left", "print 1 / fuel")
	plays(t, "left proc main ( ) { print 1 ; }", "ok", "right proc main ( ) { print 1 ; }", "ok", "open", "ok", "do diverge", "none")
}

func TestAtFirst(t *testing.T) { // P19.1
	plays(t, "do diverge", "error 100", "open", none, "do diverge", "error 100")
	reading := "proc main ( ) { var x ; read x ; print x ; }"
	plays(t, "left "+reading, "ok", "open", "fault 2 0 42", "right "+reading, "ok", "open", "ok",
		"do run both", "left 4 of 4: over / right 4 of 4: over", "do events both", "trap 5 / trap 5") // no input
	endless := "proc main ( ) { while ( true ) { } }"
	plays(t, "left "+endless, "ok", "right "+endless, "ok", "open", "ok",
		"do run both", "left 1001 of 1001: over / right 1001 of 1001: over", "do events both", "fuel / fuel")
	unneeded := "proc main ( ) { var x ; x = 1 ; }"
	plays(t, "left "+unneeded, "ok", "right "+unneeded, "ok", "open", "ok", "do break left main 2 when x == 1", "error 102", "do break right main 2 when x == 1", "error 102")
	// The limit: 100 times 100 events, and 73 times 137.
	plays(t, "left "+printing("99", "1"), "ok", "right "+printing("99", "2"), "ok", "open", "ok", "do resync", "pairs 1 / left 0 to 99, right 0 to 99")
	plays(t, "left "+printing("72", "1"), "ok", "right "+printing("136", "2"), "ok", "open", "ok", "do resync", "pairs 0, truncated / left 0 to 73, right 0 to 137")
}

// printing is a program that prints a number so many times.
func printing(times, number string) string {
	return "proc main ( ) { var i ; while ( i < " + times + " ) { print " + number + " ; i = i + 1 ; } }"
}

func TestSources(t *testing.T) { // P19.1: a text and a byte 10 each
	d := plays(t,
		"left", "error 101", "left ", "ok", "left proc main", "ok", "left   ( ) { # } @", "ok", "right proc main ( ) { } ", "ok",
		"open", "fault 1 25 30", // "\nproc main\n  ( ) { # } @\n", the end
		"left print 1 ;", "ok", "left }", "ok", "open", "ok", "do stack left", "main -1", "do run left", "left 4 of 4: over", "do events left", "print 1 / end",
		"right @", "ok", "open", "fault 2 19 20", "do where left", "error 100")
	says(t, d, "reset", "ok")
	plays(t, "left proc main(){pri", "ok", "left nt 1;}", "ok", "right proc main ( ) { print 1 ; }", "ok", "open", "fault 1 16 30") // "proc main(){pri\nnt 1;}\n"
	plays(t, "left proc main ( ) {\nprint 1 ;\n}", "ok", "right x\x00", "ok", "open", "fault 2 1 20")
	plays(t, "left x", "ok", "right y", "ok", "open", "fault 1 0 30", "left\tx", "error 101", "left\nx", "error 101", " left x", "error 101", "Left x", "error 101", "leftx y", "error 101")
}

func TestDeclarations(t *testing.T) { // P19.1
	p := "proc main ( ) { var x ; x = 1 ; print 2 ; }"
	plays(t, "left "+p, "ok", "right "+p, "ok", "decl", "error 101", "decl ", "ok", "decl # nothing", "ok", "decl break left", "ok", "decl main 3 ;", "ok",
		"open", "ok", "do run left", "left 4 of 6: at main 3 (depth 1)", "do run right", "right 6 of 6: over",
		"decl watch right main x ;", "ok", "open", "fault 3 0 102", "plain right", "ok", "open", "ok", "do run right", "right 4 of 6: at main 3 (depth 1)",
		"lean right", "ok", "open", "fault 3 0 102", "decl keep right main x ;", "ok", "open", "ok", "do run right", "right 4 of 6: at main 3 (depth 1)",
		"decl keep left main y ;", "ok", "open", "fault 3 72 40",
		"decl ;", "ok", "open", "fault 3 91 30")
}

func TestInput(t *testing.T) { // P19.1
	p := "proc main ( ) { var x ; while ( true ) { read x ; print x ; } }"
	both := []string{"left " + p, "ok", "right " + p, "ok", "input", "ok", "input 5", "ok", "input -9223372036854775808 0 7", "ok", "input", "ok"}
	for _, wrong := range []string{"input ", "input  1", "input 1 ", "input 1  2", "input 1 x", "input x 1", "input 01", "input -0", "input +1", "input 9223372036854775808", "input 1\n", "input\t1", "inputs 1"} {
		both = append(both, wrong, "error 101")
	}
	both = append(both, "open", "ok", "do run right", "right 17 of 17: over", "do events right", "read 5 / print 5 / read -9223372036854775808 / print -9223372036854775808 / read 0 / print 0 / read 7 / print 7 / trap 5")
	plays(t, both...)
}

func TestNumbers(t *testing.T) { // P19.1
	p := "proc main ( ) { while ( true ) { print 1 ; } }"
	to := []string{"left " + p, "ok", "right " + p, "ok", "open", "ok"}
	for _, word := range []string{"fuel", "every", "room", "limit"} {
		to = append(to, word+" 2147483648", "error 1", word+" -2147483649", "error 1", word+" 9223372036854775807", "error 1", word+" -9223372036854775808", "error 1")
		for _, wrong := range []string{"", " ", " x", " 01", " -0", " +1", " 1 ", " 1 1", "  1", " 1\n", " 9223372036854775808", " 0x1"} {
			to = append(to, word+wrong, "error 101")
		}
	}
	to = append(to, "open", "ok", "do run left", "left 1001 of 1001: over",
		"fuel 7", "ok", "do run left", "left 1001 of 1001: over", "open", "ok", "do run left", "left 8 of 8: over", "do resync", "pairs 4",
		"fuel 0", "ok", "open", "ok", "do run left", "left 1 of 1: over",
		"fuel 1048576", "ok", "open", "ok", "do where left", "left 0 of 1048577: begin",
		"fuel 1048577", "ok", "open", "fault 4 0 1", "fuel -1", "ok", "open", "fault 4 0 1", "fuel 2147483647", "ok", "open", "fault 4 0 1", "fuel -2147483648", "ok", "open", "fault 4 0 1", "fuel 9", "ok", "open", "ok")
	for _, word := range []string{"every", "room"} {
		to = append(to, word+" 0", "ok", "open", "fault 4 0 1", word+" -2147483648", "ok", "open", "fault 4 0 1", word+" 2147483647", "ok", "open", "ok", word+" 1", "ok", "open", "ok", "do run left", "left 10 of 10: over", "do back left 4", "left 6 of 10: at main 1 (depth 1)")
	}
	to = append(to, "every 0", "ok", "room 1", "ok", "open", "fault 4 0 1", "room 0", "ok", "every 1", "ok", "open", "fault 4 0 1", "room 1", "ok", "open", "ok")
	plays(t, to...)
	q := "proc main ( ) { print 2 ; }"
	plays(t, "left proc main ( ) { print 1 ; }", "ok", "right "+q, "ok",
		"limit 3", "ok", "open", "ok", "do resync", "pairs 0, truncated / left 0 to 2, right 0 to 2", "limit 4", "ok", "do resync", "pairs 0, truncated / left 0 to 2, right 0 to 2", "open", "ok", "do resync", "pairs 1 / left 0 to 1, right 0 to 1",
		"limit -2147483648", "ok", "open", "ok", "do resync", "pairs 0, truncated / left 0 to 2, right 0 to 2", "limit 2147483647", "ok", "open", "ok", "do resync", "pairs 1 / left 0 to 1, right 0 to 1")
}

func TestBuilds(t *testing.T) { // P19.1: who is plain
	p := "proc main ( ) { var x ; x = 1 ; }"
	to := []string{"left " + p, "ok", "right " + p, "ok"}
	told := func(line, left, right string) {
		to = append(to, line, "ok", "open", "ok", "do watch left main x", left, "do watch right main x", right)
	}
	told("plain left", "ok", "error 102")
	told("plain right", "ok", "ok")
	told("lean left", "error 102", "ok")
	told("plain left", "ok", "ok")
	told("lean both", "error 102", "error 102")
	told("plain both", "ok", "ok")
	told("plain both", "ok", "ok")
	told("lean right", "ok", "error 102")
	for _, wrong := range []string{"plain", "plain ", "plain middle", "plain left right", "plain left ", "plain  left", "plain Both", "lean", "lean ", "lean x", "lean both both", "lean right "} {
		to = append(to, wrong, "error 101")
	}
	to = append(to, "lean right", "ok", "open", "ok", "do watch left main x", "ok", "do watch right main x", "error 102")
	plays(t, to...)
}

func TestOpen(t *testing.T) { // P19.1: in the place of the one that there was
	d := plays(t, "left proc main ( ) { print 1 ; }", "ok", "right proc main ( ) { print 2 ; }", "ok", "do where left", "error 100", "open", "ok",
		"do step left 2", "left 2 of 4: at main 1 (depth 1)", "do break right main 1", "ok",
		"left proc f ( ) { }", "ok", "fuel 1", "ok", "plain both", "ok", "input 1", "ok", "limit 0", "ok", "decl break left main 1 ;", "ok", // these play no part in what is opened
		"do where left", "left 2 of 4: at main 1 (depth 1)", "do run left", "left 4 of 4: over", "do run right", "right 2 of 4: at main 1 (depth 1)", "do resync", "pairs 1 / left 0 to 1, right 0 to 1",
		"open", "ok", "do where both", "left 0 of 2: begin / right 0 of 2: begin", "do clear left", "ok", "do run both", "left 2 of 2: over / right 2 of 2: over",
		"decl x", "ok", "open", "fault 3 20 30", "do where left", "error 100", "do diverge", "error 100", "open", "fault 3 20 30", "do foo", "error 100")
	for _, wrong := range []string{"open ", "open x", " open", "Open", "opened", "reset ", "reset x", "Reset", "", " ", "foo", "do", "Do where left", "close", "open\n", "error 101", "where left"} {
		says(t, d, wrong, "error 101")
	}
}

func TestDo(t *testing.T) { // P19.1: what the session answers
	p := "proc main ( ) { print 1 ; print 2 ; }"
	plays(t, "do ", "error 100", "do where left", "error 100", "left "+p, "ok", "right "+p, "ok", "open", "ok",
		"do ", "error 101", "do  where left", "error 101", "do where left ", "error 101", "do do where left", "error 101", "do open", "error 101",
		"do where both", "left 0 of 5: begin / right 0 of 5: begin", "do step right 4", "right 4 of 5: leave main (depth 1)", "do events right", "print 1 / print 2",
		"do list right 1", "  3   print 2 ; / > 4 }", "do eval both 1 +  1", "error 81 / 2", "do goto left 6", "error 80", "do eval left x", "error 81")
}

func TestReset(t *testing.T) { // P19.1
	p := "proc main ( ) { var x ; x = 1 ; read x ; }"
	d := plays(t, "left "+p, "ok", "right "+p, "ok", "decl x", "ok", "input 1 2", "ok", "fuel 3", "ok", "every 0", "ok", "room 0", "ok", "limit 0", "ok", "plain both", "ok", "open", "fault 3 0 30", "reset", "ok",
		"open", none, "do where left", "error 100", "left "+p, "ok", "right "+p, "ok", "open", "ok", "reset", "ok", "do where left", "error 100", "save left", "error 42")
	for _, line := range []string{"left " + p, "right " + strings.Replace(p, "read x", "print 9", 1), "open"} {
		says(t, d, line, "ok")
	}
	says(t, d, "do run left", "left 5 of 5: over")
	says(t, d, "do events left", "trap 5")
	says(t, d, "do resync", "pairs 0 / left 0 to 1, right 0 to 2")
	says(t, d, "do watch left main x", "error 102")
}

func TestNil(t *testing.T) { // P19.1, P1
	var d *desk.Desk
	for _, line := range []string{"open", "reset", "left x", "do where left", "", "foo", "save both", "load 00", "input 1", "plain both", "fuel 1"} {
		if l := d.Line(line); len(l) > 0 {
			t.Errorf("%q: %q", line, l)
		}
	}
	if desk.New() == nil {
		t.Error("New")
	}
}

func TestDesksApart(t *testing.T) { // rules 3 and 5: desks share nothing, nor do answers
	a, b := desk.New(), desk.New()
	says(t, a, "left proc main ( ) { print 1 ; }", "ok")
	says(t, a, "input 1", "ok")
	says(t, b, "open", none)
	says(t, a, "open", "fault 2 0 42")
	for _, line := range []string{"right proc main ( ) { print 2 ; }", "open", "do where both", "do events left", "foo", "save both"} {
		first := a.Line(line)
		want := slices.Clone(first)
		for i := range first {
			first[i] = "x"
		}
		if line != "right proc main ( ) { print 2 ; }" {
			if again := a.Line(line); !slices.Equal(again, want) {
				t.Errorf("%q: %q, then %q", line, want, again)
			}
		}
	}
}

func TestRun(t *testing.T) { // P19.2
	for script, want := range map[string]string{
		"":                       "",
		"\n":                     "error 101\n",
		"\n\n":                   "error 101\nerror 101\n",
		"open":                   none + "\n",
		"open\n":                 none + "\n",
		"open\n\n":               none + "\nerror 101\n",
		"open\nfuel 1\ndo x":     none + "\nok\nerror 100\n",
		"\nreset\r\nreset":       "error 101\nerror 101\nok\n",
		"left \nleft\nright x\n": "ok\nerror 101\nok\n",
		"left proc main ( ) { }\nright proc main ( ) { }\nopen\ndo where both\ndo diverge\ndo stack right": "ok\nok\nok\nleft 0 of 3: begin\nright 0 of 3: begin\nnone\nmain -1\n",
	} {
		if got, e := desk.Run(script); got != want || e != api.OK {
			t.Errorf("%q: %q, %d; want %q", script, got, e, want)
		}
	}
	for range 2 { // each on a new desk
		if got, _ := desk.Run("open\nleft proc main ( ) { }"); got != none+"\nok\n" {
			t.Errorf("%q", got)
		}
	}
}
