package calls_test

import (
	"math/rand/v2"
	"slices"
	"strings"
	"testing"

	"parallax/api"
	"parallax/calls"
	"parallax/decl"
	"parallax/gen"
)

func TestLongRuns(t *testing.T) { // P1, P16.3 at the most fuel there may be
	left := "proc main ( ) { var x ; while ( true ) { f ( x ) ; x = x + 1 ; } } proc f ( int a ) int { return a % 1000 ; }"
	right := strings.Replace(left, "a % 1000", "a % 100000", 1)
	file := "pair main main ; pair f f ; same f ( a ) f ( a ) ;"
	f := declared(t, file)
	l, cut, e := calls.Report(built(t, left, nil, false), built(t, right, nil, true), f, nil, api.MaxFuel, 0)
	// Two ticks to begin with; then six each: the while, the call, three of f, the assignment. Of x below 1000 the answers are the same; so they are where x % 100000 is.
	rounds := (api.MaxFuel - 2 - 5) / 6
	want := 0
	for x := range rounds + 1 {
		if x%1000 != x%100000 {
			want++
		}
	}
	if e != api.OK || cut || len(l) != want {
		t.Fatalf("%d entries, %v, %d; want %d", len(l), cut, e, want)
	}
	if first := l[0]; told(l[:1]) != told([]calls.Entry{{A: first.A, B: first.A, Same: -1, ValA: []int64{0}, ValB: []int64{1000}}}) || first.A != 2+1000*6+5 {
		t.Errorf("the first one: %s", told(l[:1]))
	}
}

func TestManyKids(t *testing.T) { // P1, P16.2: rows as long as the limit lets them be
	var a, b strings.Builder
	a.WriteString("a")
	b.WriteString("a")
	for range 1000 {
		a.WriteString("b.c.")
		b.WriteString("c.b.")
	}
	x, y := treeOf(t, a.String()), treeOf(t, b.String())
	all := paired("aabbcc")
	if l, cut := calls.Match(x, y, all, 2000*2000); len(l) != 2000 || cut {
		t.Errorf("%d pairs, %v", len(l), cut)
	}
	if l, cut := calls.Match(x, y, all, 2000*2000-1); len(l) != 1 || !cut {
		t.Errorf("%d pairs, %v", len(l), cut)
	}
}

func TestDeepCalls(t *testing.T) { // P1, P16.1, P16.2: as many calls in one another as the bound lets them be
	const deep = 1 << 16
	s := strings.Repeat("ab", deep/2)
	x := treeOf(t, s)
	if l := calls.Kids(x, deep-2); !slices.Equal(l, []int{deep - 1}) {
		t.Errorf("Kids: %v", l)
	}
	y := treeOf(t, s+strings.Repeat(".", deep))
	if y[0].Leave != 2*deep || y[deep-1].Leave != deep+1 {
		t.Errorf("%v, %v", y[0], y[deep-1])
	}
	if l, cut := calls.Match(x, y, paired("aabb"), 0); len(l) != deep || cut {
		t.Errorf("%d pairs, %v", len(l), cut)
	}
}

func TestMostDeclared(t *testing.T) { // P16.3: with as many pairs and sames as there may be
	var s, f strings.Builder
	s.WriteString("proc main ( ) {")
	for k := range api.MaxProcs - 1 {
		s.WriteString(" " + procName(k) + " ( 1 ) ;")
	}
	s.WriteString(" }")
	for k := range api.MaxProcs - 1 {
		s.WriteString(" proc " + procName(k) + " ( int a ) { a = a + 1 ; }")
		f.WriteString("pair " + procName(k) + " " + procName(k) + " ; same " + procName(k) + " ( a ) " + procName(k) + " ( a ) ; ")
	}
	f.WriteString("pair main main ;")
	file := declared(t, f.String())
	b := built(t, s.String(), decl.Kept(file, 0), false)
	c := built(t, strings.ReplaceAll(s.String(), "a + 1", "a + 2"), nil, false)
	l, cut, e := calls.Report(b, c, file, nil, 999, 0)
	if e != api.OK || cut || len(l) != api.MaxProcs-1 {
		t.Fatalf("%d entries, %v, %d", len(l), cut, e)
	}
	for k, x := range l {
		if told([]calls.Entry{x}) != told([]calls.Entry{{A: 5 + 4*k, B: 5 + 4*k, Same: k, ValA: []int64{2}, ValB: []int64{3}}}) {
			t.Errorf("the entry %d: %s", k, told([]calls.Entry{x}))
		}
	}
}

func procName(k int) string { return "p" + string(rune('a'+k/8)) + string(rune('a'+k%8)) }

func TestTooLongToBePlain(t *testing.T) { // P16.3 of lean builds whose programs have no plain ones
	var l [2]gen.Build
	for side, s := range []string{doubled, more} {
		p := program(t, s)
		sum := api.Expr{Kind: api.EBin, Name: "+", L: []api.Expr{{Kind: api.EInt, Num: 1}, {Kind: api.EInt, Num: 1}}}
		for range 14000 {
			p.Procs[0].Body = append(p.Procs[0].Body, api.Stmt{Kind: api.SPrint, E: []api.Expr{sum}})
		}
		var e, long api.Errno
		l[side], _, e = gen.Compile(p, nil, false)
		_, _, long = gen.Compile(p, nil, true)
		if e != api.OK || long != api.ErrLong {
			t.Fatalf("Compile: %d, %d", e, long)
		}
	}
	got, cut, e := calls.Report(l[0], l[1], declared(t, "pair main main ; pair f f ;"), nil, 99, 0)
	if told(got) != "6 6 -1: 6 and 5" || cut || e != api.OK {
		t.Errorf("%s, %v, %d", told(got), cut, e)
	}
}

func TestAnswersAreNew(t *testing.T) { // rule 3
	r := rand.New(rand.NewPCG(16, 5))
	f := declared(t, "pair main main ; pair f f ; same f ( a ) f ( a ) ;")
	a, b := built(t, doubled, nil, true), built(t, strings.ReplaceAll(doubled, "3", "4"), nil, true)
	l, _, _ := calls.Report(a, b, f, nil, 99, 9)
	before := told(l)
	for i := range l {
		again, _, _ := calls.Report(a, b, f, nil, 99, 9)
		again[i].ValA[0], again[i].ValB[0] = int64(r.IntN(99)), int64(r.IntN(99))
		if told(l) != before {
			t.Fatalf("%s became %s", before, told(l))
		}
	}
	if len(l) != 3 {
		t.Errorf("%s", before)
	}
}

func FuzzCalls(f *testing.F) { // P1, P16.1, P16.2
	for _, s := range []string{"", "a", "ab.b.", "abc...", "a..", "ab,c.,.,d.e,f."} {
		f.Add([]byte(s), []byte("ab."), []byte("aabb"), 4)
	}
	f.Fuzz(func(t *testing.T, a, b, by []byte, limit int) {
		if len(a) > 300 || len(b) > 300 || len(by) > 40 {
			return
		}
		x, y := fuzzed(t, a), fuzzed(t, b)
		var l [][2]int
		for i := 0; i+1 < len(by); i += 2 {
			l = append(l, [2]int{int(by[i]) - 'a', int(by[i+1]) - 'a'})
		}
		got, cut := calls.Match(x, y, l, limit)
		want, truncated := secondMatch(x, y, l, limit)
		if !slices.Equal(got, want) || cut != truncated {
			t.Fatalf("%v, %v; want %v, %v", got, cut, want, truncated)
		}
		ordered(t, x, y, l, got)
	})
}

// fuzzed are the calls of bytes, as far as their ticks are a run's.
func fuzzed(t *testing.T, s []byte) []calls.Call {
	var l []api.Tick
	deep := 0
	for _, c := range s {
		x := api.Tick{Kind: api.MEnter, Proc: int(c) - 'a', Depth: deep + 1}
		if c == ',' || c == '.' {
			x = api.Tick{Kind: api.MStmt, Depth: deep}
			if open := standing(l); len(open) > 0 {
				x.Proc = open[len(open)-1]
			}
		} else {
			deep++
		}
		if c == '.' {
			x.Kind = api.MLeave
			deep--
		}
		if next := append(l, x); isRun(next) {
			l = next
		} else {
			break
		}
	}
	got, e := calls.Tree(l)
	if isRun(l) != (e == api.OK) {
		t.Fatalf("%v: %d", l, e)
	}
	return got
}
