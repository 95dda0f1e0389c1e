package view_test

import (
	"math/rand/v2"
	"slices"
	"strconv"
	"strings"
	"testing"

	"parallax/api"
	"parallax/check"
	"parallax/fold"
	"parallax/gen"
	"parallax/sample"
	"parallax/syntax"
	"parallax/view"
	"parallax/vm"
)

// A second reading of the chapter: rows are cut out of a program's whole text, word by word, and lines of frames are written by the histories (5).

// secondRows are the rows of a program's text.
func secondRows(text string) []view.Row {
	var rows []view.Row
	var words []string
	proc, mark, open := -1, 0, 0
	l := strings.Fields(text)
	for i, w := range l {
		words = append(words, w)
		ends := w == ";" || w == "{" || w == "}" && !(i+1 < len(l) && l[i+1] == "else")
		if !ends {
			continue
		}
		if words[0] == "}" {
			open--
		}
		row := view.Row{Text: strings.Repeat(" ", 2*open) + strings.Join(words, " "), Mark: -1}
		switch {
		case words[0] == "proc":
			proc++
			mark = 0
			row.Mark = 0
		case words[0] != "}" || open == 0:
			mark++
			row.Mark = mark
		}
		row.Proc = proc
		if w == "{" {
			open++
		}
		rows = append(rows, row)
		words = nil
	}
	return rows
}

func texts(l []view.Row) string {
	var s []string
	for _, r := range l {
		s = append(s, r.Text)
	}
	return strings.Join(s, "\n")
}

// plainly is the text of a program that can be printed.
func plainly(t *testing.T, p api.Prog) string {
	t.Helper()
	s, e := syntax.Print(p)
	if e != api.OK {
		t.Fatalf("Print: %d", e)
	}
	return s
}

func TestRowsAgain(t *testing.T) { // P17.1, P17.5, P17.6
	r := rand.New(rand.NewPCG(17, 1))
	read := 0
	for range 3000 {
		p := sample.Prog(r.IntN)
		for range r.IntN(3) {
			if q := sample.Bent(r.IntN, p); r.IntN(2) == 0 {
				p = q
			}
		}
		before := sample.Copy(p)
		rows, e := view.List(p)
		text, want := syntax.Print(p)
		if e != want {
			t.Fatalf("%v: %d, want %d", p, e, want)
		}
		if e != api.OK {
			if len(rows) > 0 {
				t.Fatalf("%v: %v", p, rows)
			}
			continue
		}
		if again := secondRows(text); !slices.Equal(rows, again) {
			t.Fatalf("%s:\n%s\nwant\n%s", text, drawn(rows), drawn(again))
		}
		if plainly(t, before) != text {
			t.Fatalf("%s was changed", text)
		}
		if q, _, e := syntax.Parse(texts(rows)); e == api.OK { // else it is too long
			read++
			if plainly(t, q) != text {
				t.Fatalf("%s is read as another program than %s", texts(rows), text)
			}
		} else if e != api.ErrLong {
			t.Fatalf("%s: %d", texts(rows), e)
		}
		if info, _, e := check.Check(p); e == api.OK {
			marked(t, rows, info)
		}
	}
	if read < 1500 {
		t.Errorf("%d were read again", read)
	}
}

// marked asks P17.6: each mark has one row, and these rise.
func marked(t *testing.T, rows []view.Row, info check.Info) {
	t.Helper()
	at := -1
	for proc, n := range info.Marks {
		for mark := range n + 2 {
			next := view.Find(rows, proc, mark)
			if next <= at {
				t.Fatalf("%s: the mark %d of %d at %d, behind %d", drawn(rows), mark, proc, next, at)
			}
			at = next
			if view.Find(rows[at+1:], proc, mark) >= 0 {
				t.Fatalf("%s: the mark %d of %d stands twice", drawn(rows), mark, proc)
			}
		}
		if view.Find(rows, proc, n+2) >= 0 || view.Find(rows, proc, -1) >= 0 {
			t.Fatalf("%s: there are more marks of %d", drawn(rows), proc)
		}
	}
}

func TestShowAgain(t *testing.T) { // P17.2
	r := rand.New(rand.NewPCG(17, 2))
	for range 3000 {
		l := numbered(1 + r.IntN(130))
		at, n := r.IntN(len(l)), r.IntN(140)
		got, e := view.Show(l, at, n)
		var want []string
		widest := strconv.Itoa(min(at+n, len(l)-1) + 1)
		for i, row := range l {
			if i < at-n || i > at+n {
				continue
			}
			number := strconv.Itoa(i + 1)
			for len(number) < len(widest) {
				number = " " + number
			}
			want = append(want, map[bool]string{true: "> ", false: "  "}[i == at]+number+" "+row.Text)
		}
		if e != api.OK || !slices.Equal(got, want) {
			t.Fatalf("%d of %d, %d about it:\n%s\n%d; want\n%s", at, len(l), n, strings.Join(got, "\n"), e, strings.Join(want, "\n"))
		}
	}
}

// secondLine is the line of a frame of a history; some variables can be told.
func secondLine(p api.Prog, vars []api.Var, f fold.Frame, told []int) string {
	var s []string
	for i, v := range vars {
		if f.Mark < v.From || f.Mark > v.To {
			continue
		}
		value := "?"
		if slices.Contains(told, i) {
			value = secondValue(v, f.Vals[i])
		}
		s = append(s, v.Name+" = "+value)
	}
	head := p.Procs[f.Proc].Name + " " + strconv.Itoa(f.Mark)
	if len(s) == 0 {
		return head
	}
	return head + ": " + strings.Join(s, ", ")
}

func secondValue(v api.Var, l []int64) string {
	if v.Type == api.Bool {
		return strconv.FormatBool(l[0] == 1)
	}
	text := ""
	for _, n := range l {
		text += strconv.FormatInt(n, 10) + " "
	}
	if v.Size > 0 {
		return "[ " + text + "]"
	}
	return strings.TrimSpace(text)
}

func TestFramesAgain(t *testing.T) { // P17.3, P17.4, P17.7
	r := rand.New(rand.NewPCG(17, 3))
	unknown, deep := 0, 0
	for range 700 {
		p := sample.Prog(r.IntN)
		var input []int64
		for range r.IntN(8) {
			input = append(input, int64(r.IntN(9)-2))
		}
		h, e := fold.Run(p, input, r.IntN(150))
		if e != api.OK {
			t.Fatalf("Run: %d", e)
		}
		for plain := range 2 {
			b, _, e := gen.Compile(p, nil, plain == 1)
			if e != api.OK {
				t.Fatalf("Compile: %d", e)
			}
			m, e := gen.Start(b, input, len(h.Pos))
			if e != api.OK {
				t.Fatalf("Start: %d", e)
			}
			for _, pos := range h.Pos {
				m.Step()
				lines := frames(t, b, m, pos)
				if b.Plain && strings.Contains(strings.Join(lines, "\n"), "?") {
					t.Fatalf("%s: plain, and yet %q", plainly(t, p), lines)
				}
				if !b.Plain && strings.Contains(lines[0], "?") {
					unknown++
				}
				if len(lines) > 2 {
					deep++
				}
			}
		}
	}
	if unknown < 1000 || deep < 1000 {
		t.Errorf("%d lines with what can not be told, %d of deep calls", unknown, deep)
	}
}

// frames asks for the lines of all frames at a tick, and for that of the tick; it answers the first ones.
func frames(t *testing.T, b gen.Build, m *vm.Machine, pos fold.Pos) []string {
	t.Helper()
	got := view.Stack(b, m)
	if len(got) != len(pos.Frames) {
		t.Fatalf("%s: %q", plainly(t, b.Prog), got)
	}
	for k, f := range pos.Frames {
		want := secondLine(b.Prog, b.Info.Vars[f.Proc], f, gen.Told(b, m, k))
		line, e := view.Frame(b, m, k)
		if line != want || e != api.OK || got[len(got)-1-k] != line {
			t.Fatalf("%s: the frame %d: %q, %d, %q of all; want %q", plainly(t, b.Prog), k, line, e, got, want)
		}
	}
	want := []string{"", "enter ", "at ", "leave "}[pos.Tick.Kind] + b.Prog.Procs[pos.Tick.Proc].Name
	if pos.Tick.Kind == api.MStmt {
		want += " " + strconv.Itoa(pos.Tick.Mark)
	}
	want += " (depth " + strconv.Itoa(len(pos.Frames)) + ")"
	if line, e := view.Tick(b.Prog, pos.Tick); line != want || e != api.OK {
		t.Fatalf("%v: %q, %d; want %q", pos.Tick, line, e, want)
	}
	return got
}

func TestLongListing(t *testing.T) { // P1, P17.1: a program that is too long to be read
	var body []api.Stmt
	for range 40000 {
		body = append(body, api.Stmt{Kind: api.SRead, Name: "x"})
	}
	rows, e := view.List(api.Prog{Procs: []api.Proc{{Name: "main", Body: body}}})
	if e != api.OK || len(rows) != len(body)+2 || rows[len(body)] != (view.Row{Text: "  read x ;", Mark: len(body)}) {
		t.Fatalf("%d rows, %d", len(rows), e)
	}
	l, e := view.Show(rows, len(body), 1)
	if e != api.OK || !slices.Equal(l, []string{"  40000   read x ;", "> 40001   read x ;", "  40002 }"}) {
		t.Errorf("%q, %d", l, e)
	}
}

func TestGreatFrames(t *testing.T) { // P1, P17.3: as many frames, variables and elements as there may be
	s := "proc main ( ) {"
	for i := range api.MaxVars {
		s += " var v" + strconv.Itoa(i) + " [ 64 ] ;"
	}
	b := built(t, s+" main ( ) ; }", true)
	m, _ := gen.Start(b, nil, 62*api.MaxDepth)
	for m.Step() && m.Ticks() < 62*api.MaxDepth {
	}
	lines := view.Stack(b, m)
	if len(lines) != api.MaxDepth || lines[0] != lines[api.MaxDepth-1] || strings.Count(lines[0], " 0") != api.MaxVars*api.MaxSize {
		t.Errorf("%d lines, %d zeros, %.80q", len(lines), strings.Count(lines[0], " 0"), lines[0])
	}
}

func FuzzView(f *testing.F) { // P1, P17.1, P17.2, P17.5
	for _, s := range []string{"", "proc main ( ) { }", "proc f ( int a ) int { if ( a < 1 ) { return 1 ; } else { a = 2 ; } while ( true ) { f ( a ) ; } return 0 ; }"} {
		f.Add(s, 0, 1)
	}
	f.Fuzz(func(t *testing.T, s string, at, n int) {
		p, _, e := syntax.Parse(s)
		if e != api.OK {
			return
		}
		rows, e := view.List(p)
		text, want := syntax.Print(p)
		if e != want {
			t.Fatalf("%d, want %d", e, want)
		}
		if e != api.OK {
			return
		}
		if again := secondRows(text); !slices.Equal(rows, again) {
			t.Fatalf("%s, want %s", drawn(rows), drawn(again))
		}
		l, e := view.Show(rows, at, n)
		there := at >= 0 && at < len(rows)
		if there && n >= 0 != (e == api.OK) || !there && e != api.ErrPlace || len(l) > len(rows) {
			t.Fatalf("%d of %d, %d about it: %q, %d", at, len(rows), n, l, e)
		}
	})
}
