package calls_test

import (
	"math/rand/v2"
	"slices"
	"testing"

	"parallax/align"
	"parallax/api"
	"parallax/calls"
	"parallax/check"
	"parallax/decl"
	"parallax/gen"
	"parallax/sample"
	"parallax/syntax"
	"parallax/tape"
)

// someTicks makes the ticks of a run of so many procedures.
func someTicks(r *rand.Rand, procs, size int) []api.Tick {
	l := []api.Tick{{Kind: api.MEnter, Proc: r.IntN(procs), Depth: 1}}
	open := []int{l[0].Proc}
	for range r.IntN(size) {
		x := api.Tick{Kind: 1 + r.IntN(3), Mark: r.IntN(4)}
		if x.Kind == api.MEnter {
			open = append(open, r.IntN(procs))
		}
		x.Proc, x.Depth = open[len(open)-1], len(open)
		l = append(l, x)
		if x.Kind == api.MLeave {
			if len(open) == 1 && r.IntN(4) > 0 { // most go on
				l = l[:len(l)-1]
				continue
			}
			open = open[:len(open)-1]
		}
		if len(open) == 0 {
			break
		}
	}
	return l
}

// bent are ticks of which one is another one, stands twice, or is missing.
func bent(r *rand.Rand, l []api.Tick) []api.Tick {
	l = slices.Clone(l)
	i := r.IntN(len(l))
	switch r.IntN(6) {
	case 0:
		l[i].Kind = r.IntN(6) - 1
	case 1:
		l[i].Depth += r.IntN(5) - 2
	case 2:
		l[i].Proc = r.IntN(3)
	case 3:
		l = slices.Delete(l, i, i+1)
	case 4:
		l = slices.Insert(l, i, l[r.IntN(len(l))])
	case 5:
		l[i] = l[r.IntN(len(l))]
	}
	return l
}

func TestTreeAgain(t *testing.T) { // P16.1, by the second reading
	r := rand.New(rand.NewPCG(16, 1))
	wrong := 0
	for range 20000 {
		l := someTicks(r, 1+r.IntN(3), 1+r.IntN(40))
		for range r.IntN(3) {
			if len(l) > 0 {
				l = bent(r, l)
			}
		}
		got, e := calls.Tree(l)
		if !isRun(l) {
			wrong++
			if e != api.ErrForm || len(got) > 0 {
				t.Fatalf("%v: %v, %d", l, got, e)
			}
			continue
		}
		if want := secondTree(l); e != api.OK || !slices.Equal(got, want) {
			t.Fatalf("%v: %v, %d; want %v", l, got, e, want)
		}
		nest(t, l, got)
		for k := range got {
			if kids := calls.Kids(got, k); !slices.Equal(kids, made(got, k)) {
				t.Fatalf("%v: the kids of %d: %v", l, k, kids)
			}
		}
	}
	if wrong < 2000 || wrong > 18000 {
		t.Errorf("%d are no run's", wrong)
	}
}

// end is behind the last position of a call.
func end(l []api.Tick, c calls.Call) int {
	if c.Leave == 0 {
		return len(l) + 1
	}
	return c.Leave + 1
}

// nest asks P16.4: each call lies within the one that it was made in, and two made in one do not overlap.
func nest(t *testing.T, ticks []api.Tick, l []calls.Call) {
	t.Helper()
	for i, c := range l {
		if c.Leave != 0 && c.Leave <= c.Enter || (c.Up < 0) != (i == 0) {
			t.Fatalf("%v: %v", ticks, c)
		}
		if c.Up < 0 {
			continue
		}
		up := l[c.Up]
		if c.Up >= i || c.Enter <= up.Enter || end(ticks, c) > end(ticks, up) || up.Leave > 0 && c.Leave == 0 {
			t.Fatalf("%v: %v is not within %v", ticks, c, up)
		}
		for _, d := range l[:i] {
			if d.Up == c.Up && end(ticks, d) > c.Enter {
				t.Fatalf("%v: %v and %v overlap", ticks, d, c)
			}
		}
	}
}

// ordered asks P16.5.
func ordered(t *testing.T, a, b []calls.Call, pairs [][2]int, l []align.Pair) {
	t.Helper()
	counts := secondPairs(pairs)
	for i, p := range l {
		x, y := a[p.A], b[p.B]
		if !slices.Contains(counts, [2]int{x.Proc, y.Proc}) {
			t.Fatalf("%v and %v are not of a pair", x, y)
		}
		if i > 0 && (p.A <= l[i-1].A || p.B <= l[i-1].B) {
			t.Fatalf("no order: %v", l)
		}
		if i == 0 && p != (align.Pair{}) || i > 0 && !slices.Contains(l, align.Pair{A: x.Up, B: y.Up}) {
			t.Fatalf("what %v and %v were made in is not matched", x, y)
		}
	}
}

func TestMatchAgain(t *testing.T) { // P16.2, P16.5, by the second reading
	r := rand.New(rand.NewPCG(16, 2))
	cuts, many := 0, 0
	for range 6000 {
		procs := 1 + r.IntN(4)
		a, _ := calls.Tree(someTicks(r, procs, 60))
		b, _ := calls.Tree(someTicks(r, procs, 60))
		if r.IntN(3) == 0 { // one that is like the other one
			b, _ = calls.Tree(runLike(r, a))
		}
		var l [][2]int
		for range r.IntN(7) {
			l = append(l, [2]int{r.IntN(procs), r.IntN(procs)})
		}
		if r.IntN(3) > 0 {
			l = append([][2]int{{a[0].Proc, b[0].Proc}}, l...)
		}
		limit := r.IntN(30) - 2
		got, cut := calls.Match(a, b, l, limit)
		want, truncated := secondMatch(a, b, l, limit)
		if !slices.Equal(got, want) || cut != truncated {
			t.Fatalf("%v\n%v\n%v, %d: %v, %v; want %v, %v", a, b, l, limit, got, cut, want, truncated)
		}
		ordered(t, a, b, l, got)
		if cut {
			cuts++
		}
		if len(got) > 4 {
			many++
		}
	}
	if cuts < 300 || many < 300 {
		t.Errorf("%d are truncated, %d have many pairs", cuts, many)
	}
}

// runLike makes the ticks of a run that calls nearly what another one does.
func runLike(r *rand.Rand, l []calls.Call) []api.Tick {
	var all []api.Tick
	var enter func(k, deep int)
	enter = func(k, deep int) {
		all = append(all, api.Tick{Kind: api.MEnter, Proc: l[k].Proc, Depth: deep})
		for _, kid := range made(l, k) {
			if r.IntN(6) > 0 {
				enter(kid, deep+1)
			}
		}
		all = append(all, api.Tick{Kind: api.MLeave, Proc: l[k].Proc, Depth: deep})
	}
	enter(0, 1)
	return all
}

// setting is two programs, what is declared of them, and what they are run with.
type setting struct {
	progs  [2]api.Prog
	builds [2][3]gen.Build // of each side plain, lean with what is declared, lean with nothing kept
	file   decl.File
	input  []int64
	fuel   int
	limit  int
}

// someSetting makes programs of which the second one often is the first one with a thing or two changed.
func someSetting(t *testing.T, r *rand.Rand) setting {
	t.Helper()
	s := setting{progs: [2]api.Prog{sample.Prog(r.IntN), sample.Prog(r.IntN)}, fuel: r.IntN(250), limit: r.IntN(20)}
	switch r.IntN(6) {
	case 0: // as they are
	case 1:
		s.progs[1] = s.progs[0]
		for range r.IntN(20) {
			p := sample.Bent(r.IntN, s.progs[1])
			if _, _, e := check.Check(p); e == api.OK {
				s.progs[1] = p
			}
		}
	default:
		l := somePicks(r)
		s.progs = [2]api.Prog{l.prog(t), l.changed(r, 1+r.IntN(8)).prog(t)}
	}
	for range r.IntN(8) {
		s.input = append(s.input, int64(r.IntN(9)-2))
	}
	s.file = someFile(t, r, s.progs)
	for side, p := range s.progs {
		for i := range s.builds[side] {
			var keep []gen.Keep
			if i == 1 {
				keep = decl.Kept(s.file, side)
			}
			var e api.Errno
			if s.builds[side][i], _, e = gen.Compile(p, keep, i == 0); e != api.OK {
				t.Fatalf("Compile: %d", e)
			}
		}
	}
	return s
}

// someFile makes pairs of procedures, of those of one name most often, and sames of them.
func someFile(t *testing.T, r *rand.Rand, progs [2]api.Prog) decl.File {
	t.Helper()
	var f decl.File
	a, _, _ := check.Check(progs[0])
	b, _, _ := check.Check(progs[1])
	for i, p := range progs[0].Procs {
		for j, q := range progs[1].Procs {
			if r.IntN(8) > 0 != (p.Name == q.Name) || p.Name == "main" && q.Name != "main" || p.Name != "main" && q.Name == "main" {
				continue
			}
			pair := api.Pair{ProcA: p.Name, ProcB: q.Name}
			if slices.ContainsFunc(f.Pairs, func(x api.Pair) bool { return x.ProcA == p.Name || x.ProcB == q.Name }) {
				continue
			}
			f.Pairs = append(f.Pairs, pair)
			for _, x := range a.Vars[i] {
				for _, y := range b.Vars[j] {
					pair.VarA, pair.VarB = x.Name, y.Name
					likely := x.Name == y.Name || r.IntN(6) == 0
					if likely && x.Type == y.Type && x.Size == y.Size && len(f.Sames) < api.MaxPairs {
						f.Sames = append(f.Sames, pair)
					}
				}
			}
		}
	}
	r.Shuffle(len(f.Sames), func(i, k int) { f.Sames[i], f.Sames[k] = f.Sames[k], f.Sames[i] })
	if _, e := decl.Check(f, progs[0], progs[1]); e != api.OK {
		t.Fatalf("%v: %d", f, e)
	}
	return f
}

// text is a setting's, for what is told of a fault.
func (s setting) text() string {
	a, _ := syntax.Print(s.progs[0])
	b, _ := syntax.Print(s.progs[1])
	f, _ := decl.Print(s.file)
	return a + "\n" + b + "\n" + f
}

// report is that of a file, with the builds of two numbers.
func (s setting) report(t *testing.T, f decl.File, i, j int) ([]calls.Entry, bool) {
	t.Helper()
	l, cut, e := calls.Report(s.builds[0][i], s.builds[1][j], f, s.input, s.fuel, s.limit)
	if e != api.OK {
		t.Fatalf("%s\nReport: %d", s.text(), e)
	}
	return l, cut
}

func TestReportAgain(t *testing.T) { // P16.3, P16.7, by the second reading; P16.8
	r := rand.New(rand.NewPCG(16, 3))
	entries, ofSames, cuts := 0, 0, 0
	for range 1200 {
		s := someSetting(t, r)
		a, b := pastOf(t, s.progs[0], s.input, s.fuel), pastOf(t, s.progs[1], s.input, s.fuel)
		want, truncated := secondReport(a, b, s.file, s.limit)
		for k := range 9 {
			if got, cut := s.report(t, s.file, k/3, k%3); told(got) != told(want) || cut != truncated {
				t.Fatalf("%s\ninput %v, fuel %d, limit %d, builds %d:\n%s, %v\nwant\n%s, %v", s.text(), s.input, s.fuel, s.limit, k, told(got), cut, told(want), truncated)
			}
		}
		if len(want) > 0 {
			entries++
		}
		if truncated {
			cuts++
		}
		if n := len(s.file.Sames); n > 0 {
			if slices.ContainsFunc(want, func(x calls.Entry) bool { return x.Same == n-1 }) {
				ofSames++
			}
			fewer := s.file
			fewer.Sames = fewer.Sames[:n-1]
			got, _ := s.report(t, fewer, r.IntN(3), r.IntN(3))
			rest := slices.DeleteFunc(want, func(x calls.Entry) bool { return x.Same == n-1 })
			if told(got) != told(rest) {
				t.Fatalf("%s\nwithout the last same:\n%s\nwant\n%s", s.text(), told(got), told(rest))
			}
		}
	}
	if entries < 100 || ofSames < 10 || cuts < 30 {
		t.Errorf("%d have entries, %d of the last same, %d are truncated", entries, ofSames, cuts)
	}
}

func TestReportOfOneProgram(t *testing.T) { // P16.6
	r := rand.New(rand.NewPCG(16, 4))
	many, empty := 0, 0
	for range 800 {
		s := someSetting(t, r)
		p := s.progs[0]
		f := decl.File{}
		var l [][2]int
		info, _, _ := check.Check(p)
		for i, q := range p.Procs {
			l = append(l, [2]int{i, i})
			pair := api.Pair{ProcA: q.Name, ProcB: q.Name}
			f.Pairs = append(f.Pairs, pair)
			for _, v := range info.Vars[i] {
				if pair.VarA, pair.VarB = v.Name, v.Name; len(f.Sames) < api.MaxPairs {
					f.Sames = append(f.Sames, pair)
				}
			}
		}
		var trees [2][]calls.Call
		var twice [2]gen.Build
		for side := range trees {
			twice[side] = s.builds[0][r.IntN(3)]
			trace, e := tape.Record(twice[side], s.input, s.fuel)
			if e != api.OK {
				t.Fatalf("Record: %d", e)
			}
			if trees[side], e = calls.Tree(trace.Ticks); e == api.ErrForm && s.fuel == 0 { // no ticks are no run's
				empty++
			} else if e != api.OK {
				t.Fatalf("%s\nTree: %d", s.text(), e)
			}
			nest(t, trace.Ticks, trees[side])
		}
		got, cut := calls.Match(trees[0], trees[1], l, r.IntN(3)-1)
		if len(got) != len(trees[0]) || len(got) != len(trees[1]) || cut || len(got) == 0 && s.fuel > 0 {
			t.Fatalf("%s\n%d of %d calls are matched, %v", s.text(), len(got), len(trees[0]), cut)
		}
		for i, p := range got {
			if p.A != i || p.B != i {
				t.Fatalf("%s\n%v", s.text(), got)
			}
		}
		if entries, cut, e := calls.Report(twice[0], twice[1], f, s.input, s.fuel, r.IntN(3)-1); len(entries) > 0 || cut || e != api.OK {
			t.Fatalf("%s\n%s, %v, %d", s.text(), told(entries), cut, e)
		}
		if len(got) > 3 {
			many++
		}
	}
	if many < 100 || empty == 0 {
		t.Errorf("%d have many calls, %d no ticks", many, empty)
	}
}
