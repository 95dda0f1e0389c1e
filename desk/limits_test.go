package desk_test

import (
	"strings"
	"testing"

	"parallax/api"
	"parallax/desk"
)

func TestLongTexts(t *testing.T) { // P19.1: at most 2^15 bytes of each
	for _, word := range []string{"left ", "right ", "decl "} {
		d := plays(t,
			word+strings.Repeat(" ", 1<<15), "error 2", word+"#"+strings.Repeat("x", 1<<20), "error 2", // more, from the beginning on
			word+strings.Repeat(" ", 1<<14-1), "ok", word+strings.Repeat(" ", 1<<14), "error 2", // one more
			word+strings.Repeat(" ", 1<<14-2), "ok", word+" ", "error 2", word, "ok", word, "error 2", word+"x", "error 2")
		for _, other := range []string{"left ", "right ", "decl "} { // each by itself
			if other != word {
				says(t, d, other+strings.Repeat(" ", 1<<15-1), "ok")
				says(t, d, other, "error 2")
			}
		}
		says(t, d, "reset", "ok")
		says(t, d, word+strings.Repeat(" ", 1<<15-1), "ok")
	}
	p := "proc main ( ) { }"
	d := plays(t, "left "+p, "ok", "left "+strings.Repeat(" ", 1<<14-len(p)-2), "ok", "right "+p, "ok", "open", "ok", "left ", "ok", "open", "fault 1 0 2", "save left", "error 2") // more than a source may have
	says(t, d, "left "+strings.Repeat(" ", 1<<14-2), "ok")
	says(t, d, "left ", "error 2")
	says(t, d, "reset", "ok")
	for _, line := range []string{"left " + p, "right " + p, "decl " + strings.Repeat(" ", 1<<14-1)} {
		says(t, d, line, "ok")
	}
	says(t, d, "open", "ok")
	says(t, d, "decl ", "ok")
	says(t, d, "open", "fault 3 0 2")
}

func TestManyNumbers(t *testing.T) { // P19.1: at most 2000
	p := "proc main ( ) { var x ; while ( true ) { read x ; } }"
	many := func(n int) string { return "input" + strings.Repeat(" 1", n) }
	d := plays(t, "left "+p, "ok", "right "+p, "ok", "fuel 2010", "ok", many(2001), "error 2", many(1<<17), "error 2", many(2001)+" x", "error 101", many(999), "ok", many(1002), "error 2", many(1), "ok",
		"open", "ok", "do run left", "left 2005 of 2005: over", many(1001), "error 2", many(1), "ok", "open", "fault 4 0 1", "do where left", "error 100", "save left", "error 1",
		many(999), "ok", "input", "ok", many(1), "error 2", "input x", "error 101", load(closed(80, 76, 88, 49, 1, 0)), "ok", "open", "ok", "do run left", "left 5 of 5: over", many(2001), "error 2", many(2000), "ok", many(1), "error 2", "open", "fault 4 0 1")
	says(t, d, "reset", "ok")
	says(t, d, many(2000), "ok")
}

func TestLongScripts(t *testing.T) { // P19.2
	for script, want := range map[string]int{
		strings.Repeat("\n", 1000):                    1000,
		strings.Repeat("\n", 1000) + "x":              -1,
		strings.Repeat("\n", 1001):                    -1,
		strings.Repeat("\n", 999) + "x":               1000,
		strings.Repeat("\n", 999) + "x\n":             1000,
		strings.Repeat("reset\n", 1000):               1000,
		strings.Repeat("reset\n", 1000) + "reset":     -1,
		strings.Repeat("x", 1<<18):                    1,
		strings.Repeat("x", 1<<18-1) + "\n":           1,
		strings.Repeat("x", 1<<18-2) + "\ny":          2,
		strings.Repeat("x", 1<<18) + "\n":             -1,
		strings.Repeat("x", 1<<18+1):                  -1,
		strings.Repeat("x", 1<<22):                    -1,
		strings.Repeat("\n", 1<<18):                   -1,
		strings.Repeat("left a b c ; # nothing\n", 9): 9,
	} {
		got, e := desk.Run(script)
		switch {
		case want < 0 && (got != "" || e != api.ErrLong):
			t.Errorf("%.20q, %d bytes: %.20q, %d", script, len(script), got, e)
		case want >= 0 && (strings.Count(got, "\n") != want || e != api.OK):
			t.Errorf("%.20q, %d bytes: %.20q, %d lines, %d", script, len(script), got, strings.Count(got, "\n"), e)
		}
	}
}

func TestZeroDesk(t *testing.T) { // P1: one that New did not make
	for _, line := range []string{"open", "do where left", "save both", "input 1", "left proc main ( ) { }", "right proc main ( ) { }", "open", "save both", "do run both", "reset", "open", "foo"} {
		d := new(desk.Desk)
		d.Line(line)
		d.Line("left proc main ( ) { }")
		d.Line("right proc main ( ) { }")
		d.Line("open")
		d.Line(line)
		says(t, d, "reset", "ok")
		says(t, d, "open", none)
	}
}

// FuzzDesk asks that nothing panics, and what follows of any script.
func FuzzDesk(f *testing.F) {
	p := "proc main ( ) { var x ; read x ; while ( 0 < x ) { print f ( x ) ; x = x - 1 ; } } proc f ( int n ) int { return n * n ; }"
	f.Add("open\nleft "+p+"\nright "+p+"\ninput 3\nopen\ndo diverge\ndo run left\ndo report\nsave both\n", 40)
	f.Add("left proc main ( ) { print 1 ; }\nright proc main ( ) { print 2 ; }\ndecl break left main 1 ;\nfuel 9\nopen\ndo run both\ndo events both\nreset\nopen", 60)
	f.Add(load(closed(80, 76, 88, 49, 1, 1, 7))+"\ninput 1 2\nplain both\nlean left\nlimit 3\nevery 1\nroom 2\nopen\ndo agree\n", 9)
	f.Fuzz(func(t *testing.T, script string, at int) {
		if strings.Contains(script, "fuel ") {
			return // which may be much
		}
		all, e := desk.Run(script)
		if e != api.OK {
			if all != "" || len(script) <= api.MaxScript && strings.Count(script, "\n") < api.MaxLines {
				t.Fatalf("%q: %q, %d", script, all, e)
			}
			return
		}
		d := desk.New()
		var l []string
		for _, line := range strings.SplitAfter(script, "\n") {
			if line != "" {
				l = append(l, d.Line(strings.TrimSuffix(line, "\n"))...)
			}
		}
		if got := strings.Join(append(l, ""), "\n"); got != all {
			t.Fatalf("%q: %q, line by line %q", script, all, got)
		}
		k := min(max(at, 0), len(script))
		if first, e := desk.Run(script[:strings.LastIndex(script[:k], "\n")+1]); e != api.OK || !strings.HasPrefix(all, first) {
			t.Fatalf("%q: %q, the first lines %q", script, all, first)
		}
		if again, e := desk.Run(script + "\nreset\n" + script); e == api.OK && !strings.HasSuffix(again, "ok\n"+all) {
			t.Fatalf("%q: %q, behind reset %q", script, all, again)
		}
	})
}
