package desk_test

import (
	"math/rand/v2"
	"slices"
	"strconv"
	"strings"
	"testing"

	"parallax/api"
	"parallax/desk"
)

// opened is a desk with two sources opened, behind some more lines.
func opened(t *testing.T, left, right string, more ...string) *desk.Desk {
	t.Helper()
	d := desk.New()
	for _, line := range append([]string{"left " + left, "right " + right}, append(slices.Clone(more), "open")...) {
		says(t, d, line, "ok")
	}
	return d
}

func TestProgramsByHand(t *testing.T) { // W1, W2: what they print of what they read, however they are built
	for _, x := range []struct{ source, input, want string }{
		{"proc main ( ) { var a ; var b ; read a ; read b ; while ( b != 0 ) { a = part ( a , b ) ; var c ; c = a ; a = b ; b = c ; } print a ; } proc part ( int n , int m ) int { return n % m ; }",
			"48 36", "read 48 / read 36 / print 12 / end"},
		{"proc main ( ) { var n ; var x ; n = 1 ; x = 1 ; while ( n <= 21 ) { x = x * n ; n = n + 1 ; } print x ; print x / 1000 ; print x % 1000 ; print 0 - 7 / 2 ; print - 7 / 2 ; print - 7 % 2 ; }",
			"", "print -4249290049419214848 / print -4249290049419214 / print -848 / print -3 / print -3 / print -1 / end"},
		{"proc main ( ) { var l [ 5 ] ; var i ; var j ; while ( i < 5 ) { var x ; read x ; l [ i ] = x ; i = i + 1 ; } i = 0 ; while ( i < 4 ) { j = 0 ; while ( j < 4 ) { if ( l [ j + 1 ] < l [ j ] ) { var y ; y = l [ j ] ; l [ j ] = l [ j + 1 ] ; l [ j + 1 ] = y ; } j = j + 1 ; } i = i + 1 ; } i = 0 ; while ( i < 5 ) { print l [ i ] ; i = i + 1 ; } print l [ i ] ; }",
			"3 -1 4 1 -5", "read 3 / read -1 / read 4 / read 1 / read -5 / print -5 / print -1 / print 1 / print 3 / print 4 / trap 2"},
		{"proc main ( ) { var s [ 20 ] ; var i ; var j ; i = 2 ; while ( i < 20 ) { if ( s [ i ] == 0 ) { print i ; j = i ; while ( j < 20 ) { s [ j ] = 1 ; j = j + i ; } } i = i + 1 ; } }",
			"", "print 2 / print 3 / print 5 / print 7 / print 11 / print 13 / print 17 / print 19 / end"},
		{"proc fib ( int n ) int { var a ; var b ; if ( n < 2 ) { return n ; } a = fib ( n - 1 ) ; b = fib ( n - 2 ) ; return a + b ; } proc main ( ) { var x ; x = fib ( 9 ) ; print x ; x = fib ( 1 ) ; print x ; fib ( 3 ) ; }",
			"", "print 34 / print 1 / end"},
		{"proc main ( ) { var bool b ; b = even ( 7 ) ; if ( b ) { print 1 ; } else { print 0 ; } b = even ( 10 ) ; if ( b && ! false ) { print 1 ; } assert b || 1 / 0 == 0 ; assert ! b ; print 9 ; } proc even ( int n ) bool { var bool x ; if ( n == 0 ) { return true ; } x = odd ( n - 1 ) ; return x ; } proc odd ( int n ) bool { var bool x ; if ( n == 0 ) { return false ; } x = even ( n - 1 ) ; return x ; }",
			"", "print 0 / print 1 / trap 3"},
		{"proc main ( ) { var x ; read x ; print 10 / x ; read x ; print 10 / x ; }", "-3 0 5", "read -3 / print -3 / read 0 / trap 1"},
		{"proc main ( ) { f ( 1 ) ; } proc f ( int n ) { print n ; if ( n == 48 ) { print 0 - n ; } if ( n < 49 ) { f ( n + 1 ) ; } else { main ( ) ; } }", "", counting(48) + " / print -48 / print 49 / trap 4"},
		{"proc main ( ) { var x ; read x ; read x ; }", "1", "read 1 / trap 5"},
	} {
		for _, build := range []string{"plain both", "lean both", "plain left", "plain right"} {
			d := opened(t, x.source, x.source, build, "fuel 100000", strings.TrimSpace("input "+x.input))
			d.Line("do run both")
			says(t, d, "do events left", x.want)
			says(t, d, "do events right", x.want)
			says(t, d, "do diverge", "none")
		}
	}
}

// counting is what is printed by one who counts from 1 on.
func counting(to int) string {
	var l []string
	for n := range to {
		l = append(l, "print "+strconv.Itoa(n+1))
	}
	return strings.Join(l, " / ")
}

// both is a made-up program on both sides, the right one kept, or built, otherwise.
func both(t *testing.T, r *rand.Rand, more ...string) (*writer, *desk.Desk) {
	t.Helper()
	w := &writer{r: r}
	w.programs()
	d := desk.New()
	for _, line := range w.lines {
		if strings.HasPrefix(line, "left") && !strings.Contains(line, "#") {
			d.Line(line)
			d.Line("right" + strings.TrimPrefix(line, "left"))
		}
	}
	for _, line := range append([]string{"input 3 -1 4 1 5 -9 2", "fuel 120"}, more...) {
		says(t, d, line, "ok")
	}
	return w, d
}

func TestBuildsAlike(t *testing.T) { // W2: wherever one is; what is kept is told as in a plain build
	r := rand.New(rand.NewPCG(19, 5))
	for range 60 {
		w, d := both(t, r, "plain left", "every "+strconv.Itoa(1+r.IntN(20)))
		for k, l := range w.infos[0].Vars {
			for _, v := range l {
				d.Line("decl keep right " + w.progs[0].Procs[k].Name + " " + v.Name + " ;")
			}
		}
		if open := d.Line("open"); open[0] != "ok" { // of more than 40 variables
			continue
		}
		for p := range 121 {
			says(t, d, "do diverge", "none")
			a, b := d.Line("do goto left "+strconv.Itoa(p)), d.Line("do goto right "+strconv.Itoa(p))
			if a[0] == "error 80" && b[0] == "error 80" {
				break
			}
			for _, what := range []string{"where", "stack", "events", "list"} {
				rest := map[string]string{"list": " 2"}[what]
				x, y := strings.Join(d.Line("do "+what+" left"+rest), " / "), strings.Join(d.Line("do "+what+" right"+rest), " / ")
				if x != strings.ReplaceAll(y, "right ", "left ") {
					t.Fatalf("%q\n%s at %d: plain %q, lean %q", w.lines, what, p, x, y)
				}
			}
		}
	}
}

func TestTapesGiveTheSame(t *testing.T) { // W3: an input that is written down and read again
	p := "proc main ( ) { var x ; while ( true ) { read x ; print x ; } }"
	a, b := opened(t, p, p, "input 1 -1 300 -9223372036854775808"), opened(t, p, p, load(closed(80, 76, 88, 49, 1, 4, 2, 1, 0xd8, 4, 0xff, 0xff, 0xff, 0xff, 0xff, 0xff, 0xff, 0xff, 0xff, 1)))
	for _, line := range []string{"do run left", "do events left", "do stack left", "save both", "do diverge", "do back both 2", "do stack both"} {
		if x, y := a.Line(line), b.Line(line); !slices.Equal(x, y) {
			t.Errorf("%s: %q, %q", line, x, y)
		}
	}
	says(t, b, "do events right", "none")
	says(t, b, "do events left", "read 1 / print 1 / read -1 / print -1 / read 300 / print 300 / read -9223372036854775808 / print -9223372036854775808")
}

func TestPositionsAreTheSame(t *testing.T) { // W4: wherever one comes from; backwards is forwards turned round
	r := rand.New(rand.NewPCG(19, 6))
	for range 40 {
		_, d := both(t, r, "every "+strconv.Itoa(1+r.IntN(20)), "room "+strconv.Itoa(1+r.IntN(6)))
		if open := d.Line("open"); open[0] != "ok" {
			continue
		}
		seen := map[string]string{} // by where one is
		var forward []string
		look := func() string {
			t.Helper()
			at := d.Line("do where left")[0]
			here := strings.Join(append(d.Line("do stack left"), d.Line("do events left")...), " / ")
			if want, ok := seen[at]; ok && here != want {
				t.Fatalf("%s: %q, it was %q", at, here, want)
			}
			seen[at] = here
			return at
		}
		for {
			forward = append(forward, look())
			if strings.HasSuffix(forward[len(forward)-1], "over") {
				break
			}
			d.Line("do step left 1")
		}
		for range 30 {
			d.Line("do " + []string{"next", "rnext", "finish", "rfinish"}[r.IntN(4)] + " left")
			look()
			d.Line("do " + []string{"goto", "step", "back"}[r.IntN(3)] + " left " + strconv.Itoa(r.IntN(60)))
			look()
		}
		d.Line("do rrun left")
		d.Line("do run left")
		for k := range forward {
			if at, want := look(), forward[len(forward)-1-k]; at != want {
				t.Fatalf("back: %s; want %s", at, want)
			}
			d.Line("do back left 1")
		}
		if len(seen) != len(forward) {
			t.Fatalf("%d positions, %d by others' ways", len(forward), len(seen))
		}
	}
}

func TestMatchedAgain(t *testing.T) { // W4: where two part, and how widely they are matched
	d := opened(t, "proc main ( ) { print 1 ; print 2 ; print 3 ; print 4 ; print 5 ; }", "proc main ( ) { print 1 ; print 3 ; print 9 ; print 4 ; print 2 ; print 5 ; }")
	for range 2 {
		says(t, d, "do diverge", "event 1")
		says(t, d, "do resync", "pairs 5 / left 1 to 2, right 1 to 1 / left 3 to 3, right 2 to 3 / left 4 to 4, right 4 to 5")
		says(t, d, "do agree", "left 3 of 8: at main 2 (depth 1) / right 3 of 9: at main 2 (depth 1)")
		d.Line("do run both")
	}
}

func TestWrongCalls(t *testing.T) { // W5: a wrong answer is found at the call that gave it, and nowhere else
	main := "proc main ( ) { var x ; x = sq ( 3 ) ; x = sq ( 4 ) ; x = sq ( 5 ) ; print x ; } "
	for k, want := range []string{"left 12 right 10 answer: 15 and 16 / entries 1", "entries 0"} {
		student := []string{"proc sq ( int n ) int { if ( n == 4 ) { return 15 ; } return n * n ; }", "proc sq ( int n ) int { if ( n == 4 ) { return 16 ; } return n * n ; }"}[k]
		for _, build := range []string{"plain both", "lean both", "plain right"} {
			d := opened(t, main+student, main+"proc sq ( int m ) int { return m * m ; }", build, "decl pair main main ; pair sq sq ; same sq ( n ) sq ( m ) ; same main ( x ) main ( x ) ;")
			says(t, d, "do diverge", "none")
			says(t, d, "do report", want)
		}
	}
	d := opened(t, main+"proc sq ( int n ) int { return n * n ; }", main+"proc sq ( int n ) int { return n * n ; }")
	says(t, d, "do list left 9", "error 80")
	says(t, d, "do step left 5", "left 5 of 17: at sq 1 (depth 2)")
	says(t, d, "do list left 9", "   1 proc main ( ) { /    2   var x ; /    3   x = sq ( 3 ) ; /    4   x = sq ( 4 ) ; /    5   x = sq ( 5 ) ; /    6   print x ; /    7 } /    8 proc sq ( int n ) int { / >  9   return n * n ; /   10 }")
}

func TestStops(t *testing.T) { // W6: one stops where it holds and nowhere else, forward and back
	r := rand.New(rand.NewPCG(19, 7))
	stopped := 0
	for range 250 {
		w, d := both(t, r, "plain left")
		if open := d.Line("open"); open[0] != "ok" {
			continue
		}
		p, v := w.variable(0)
		k := slices.IndexFunc(w.progs[0].Procs, func(x api.Proc) bool { return x.Name == p })
		if k < 0 {
			continue
		}
		last := strconv.Itoa(w.infos[0].Marks[k] + 1)
		mark, when := w.of(w.number(0, 9), w.number(0, 9), last), v+" < 3"
		if r.IntN(2) == 0 || d.Line("do break left " + p + " " + mark + " when " + when)[0] != "ok" {
			if when = "true"; d.Line("do break left " + p + " " + mark)[0] != "ok" {
				continue
			}
		}
		var want []string // by going to each position
		for k := 1; ; k++ {
			at := d.Line("do goto left " + strconv.Itoa(k))[0]
			if strings.HasSuffix(at, "over") {
				break
			}
			holds := d.Line("do eval left " + when)[0] == "true"
			if _, tick, _ := strings.Cut(at, ": "); holds && strings.HasPrefix(tick, begun(p, mark, last)) {
				want = append(want, at)
			}
		}
		stopped += len(want)
		for _, word := range []string{"rrun", "run"} {
			var got []string
			d.Line("do goto left 0")
			if word == "rrun" {
				for !strings.HasSuffix(d.Line("do step left 99")[0], "over") {
				}
			}
			for {
				at := d.Line("do " + word + " left")[0]
				if strings.HasSuffix(at, "over") || strings.HasSuffix(at, "begin") {
					break
				}
				got = append(got, at)
			}
			if word == "rrun" {
				slices.Reverse(got)
			}
			if !slices.Equal(got, want) {
				t.Fatalf("%q\nbreak %s %s when %s: %s: %q; want %q", w.lines, p, mark, when, word, got, want)
			}
		}
	}
	if stopped < 40 {
		t.Errorf("%d stops", stopped)
	}
}

// begun is how the line of a tick begins at a procedure's mark.
func begun(p, mark, last string) string {
	switch mark {
	case "0":
		return "enter " + p + " "
	case last:
		return "leave " + p + " "
	}
	return "at " + p + " " + mark + " "
}

func TestFaultsInPlace(t *testing.T) { // W6: what is wrong is told at its place
	right := "proc main ( ) { f ( ) ; }\nproc f ( ) {\nprint 1 ;\n}\n"
	for _, x := range []struct{ old, new, want string }{
		{"print 1", "print 1 1", "30 47"}, {"print 1", "print @", "20 45"}, {"print 1", "print 1 + true", "41 39"}, {"print 1", "return 1", "41 39"},
		{"f ( ) ;", "g ( ) ;", "40 16"}, {"proc f ( )", "proc f ( ) int", "43 0"}, {"proc f", "proc main", "40 0"}, {"proc main", "proc mine", "42 0"}, {"print 1 ;", "var a ; var a ;", "40 26"},
	} {
		source := strings.Replace(right, x.old, x.new, 1)
		for k, side := range []string{"left", "right"} {
			d := plays(t)
			for _, word := range []string{"left", "right"} {
				for _, line := range strings.Split(strings.TrimSpace(map[bool]string{true: source, false: right}[word == side]), "\n") {
					says(t, d, word+" "+line, "ok")
				}
			}
			code, at, _ := strings.Cut(x.want, " ")
			if x.new == "proc f ( ) int" { // at the } that may be come to
				at = strconv.Itoa(strings.LastIndex(source, "}"))
			}
			says(t, d, "open", "fault "+strconv.Itoa(k+1)+" "+at+" "+code)
		}
	}
}

func TestDeskTellsTheLayers(t *testing.T) { // W7: both ways from a tape to a report
	tape := closed(80, 76, 88, 49, 1, 2, 6, 8)
	p := "proc main ( ) { var x ; var y ; read x ; read y ; x = f ( x , y ) ; print x ; } proc f ( int a , int b ) int { return a "
	d := opened(t, p+"- b ; }", p+"+ b ; }", load(tape), "decl pair main main ; pair f f ;", "decl same f ( a ) f ( a ) ; same main ( x ) main ( x ) ;", "decl watch left main x ;")
	says(t, d, "do diverge", "event 2")
	says(t, d, "do report", "left 9 right 9 answer: -1 and 7 / entries 1")
	says(t, d, "do run left", "left 5 of 12: at main 4 (depth 1)")
	says(t, d, "do run left", "left 10 of 12: at main 6 (depth 1)")
	says(t, d, "do eval both x", "-1 / error 81")
	says(t, d, "do goto right 10", "right 10 of 12: at main 6 (depth 1)")
	says(t, d, "do eval both x", "-1 / 7")
	says(t, d, "do rrun left", "left 5 of 12: at main 4 (depth 1)")
	says(t, d, "do stack left", "main 4: x = 3, y = ?")
	says(t, d, "do resync", "pairs 3 / left 2 to 3, right 2 to 3")
	events := []byte{80, 76, 88, 49, 2, 1, 0, 0, 1, 2, 0, 1, 1, 2, 0, 2, 1, 2, 0, 3, 1, 18, 6, 2, 0, 4, 1, 18, 8, 2, 0, 5, 1, 1, 1, 0, 2, 2, 1, 1, 2, 3, 1, 2, 2, 2, 0, 6, 1, 17, 1, 3, 0, 7, 1, 19, 0}
	right := slices.Clone(events)
	right[len(right)-7] = 14
	says(t, d, "save both", size(closed(events...))+" / "+size(closed(right...)))
}
