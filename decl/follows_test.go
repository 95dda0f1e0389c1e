package decl_test

import (
	"math"
	"math/rand/v2"
	"reflect"
	"slices"
	"strings"
	"testing"

	"parallax/api"
	"parallax/check"
	"parallax/decl"
	"parallax/gen"
	"parallax/lex"
	"parallax/sample"
	"parallax/syntax"
)

// setting is two right programs, and what is known of them.
type setting struct {
	progs [2]api.Prog
	infos [2]check.Info
}

func settingOf(t *testing.T, r *rand.Rand) setting {
	t.Helper()
	var s setting
	for side := range s.progs {
		s.progs[side] = sample.Prog(r.IntN)
		var e api.Errno
		if s.infos[side], _, e = check.Check(s.progs[side]); e != api.OK {
			t.Fatalf("%v: %d", s.progs[side], e)
		}
	}
	return s
}

// procs are the numbers of a side's procedures, by chance.
func (s setting) procs(r *rand.Rand, side int) []int { return r.Perm(len(s.progs[side].Procs)) }

// file makes a file that fits.
func (s setting) file(r *rand.Rand) decl.File {
	var f decl.File
	left, right := s.procs(r, 0), s.procs(r, 1)
	for i := range r.IntN(min(len(left), len(right)) + 1) {
		a, b := left[i], right[i]
		p := api.Pair{ProcA: s.progs[0].Procs[a].Name, ProcB: s.progs[1].Procs[b].Name}
		f.Pairs = append(f.Pairs, p)
		for _, x := range s.infos[0].Vars[a] {
			for _, y := range s.infos[1].Vars[b] {
				if x.Type == y.Type && x.Size == y.Size && r.IntN(3) == 0 && len(f.Sames) < 40 {
					p.VarA, p.VarB = x.Name, y.Name
					f.Sames = append(f.Sames, p)
				}
			}
		}
	}
	r.Shuffle(len(f.Sames), func(i, k int) { f.Sames[i], f.Sames[k] = f.Sames[k], f.Sames[i] })
	for range r.IntN(12) {
		side := r.IntN(2)
		i := s.procs(r, side)[0]
		proc, vars := s.progs[side].Procs[i].Name, s.infos[side].Vars[i]
		if len(vars) > 0 {
			v := vars[r.IntN(len(vars))]
			f.Keeps = append(f.Keeps, decl.Keep{Side: side, Proc: proc, Var: v.Name})
			if v = vars[r.IntN(len(vars))]; v.Size == 0 {
				f.Watches = append(f.Watches, decl.Watch{Side: side, Proc: proc, Var: v.Name})
			}
		}
		b := decl.Break{Side: side, Proc: proc, Mark: int64(r.IntN(s.infos[side].Marks[i] + 2))}
		if r.IntN(2) == 0 {
			b.When = []api.Expr{holding(r, vars, int(b.Mark), 3)}
		}
		f.Breaks = append(f.Breaks, b)
	}
	return f
}

// holding makes an expression of type Bool at a mark.
func holding(r *rand.Rand, vars []api.Var, mark, size int) api.Expr {
	if size > 0 {
		switch r.IntN(6) {
		case 0:
			return one("!", holding(r, vars, mark, size-1))
		case 1:
			return two(holding(r, vars, mark, size-1), "&&", holding(r, vars, mark, size-1))
		case 2:
			return two(holding(r, vars, mark, size-1), "!=", holding(r, vars, mark, size-1))
		case 3, 4:
			return two(counting(r, vars, mark, size-1), "<", counting(r, vars, mark, size-1))
		}
	}
	if v, ok := inScope(r, vars, mark, func(v api.Var) bool { return v.Type == api.Bool }); ok {
		return named(v.Name)
	}
	return api.Expr{Kind: api.EBool, Num: int64(r.IntN(2))}
}

// counting makes an expression of type Int at a mark.
func counting(r *rand.Rand, vars []api.Var, mark, size int) api.Expr {
	if size > 0 && r.IntN(2) == 0 {
		return two(counting(r, vars, mark, size-1), "%", counting(r, vars, mark, size-1))
	}
	if v, ok := inScope(r, vars, mark, func(v api.Var) bool { return v.Size > 0 }); ok && size > 0 && r.IntN(2) == 0 {
		return element(v.Name, counting(r, vars, mark, size-1))
	}
	if v, ok := inScope(r, vars, mark, func(v api.Var) bool { return v.Size == 0 && v.Type == api.Int }); ok && r.IntN(4) > 0 {
		return named(v.Name)
	}
	return whole(int64(r.IntN(5)))
}

// inScope is a variable in scope at a mark of which something holds, if there is one.
func inScope(r *rand.Rand, vars []api.Var, mark int, holds func(api.Var) bool) (api.Var, bool) {
	var l []api.Var
	for _, v := range vars {
		if v.From <= mark && mark <= v.To && holds(v) {
			l = append(l, v)
		}
	}
	if len(l) == 0 {
		return api.Var{}, false
	}
	return l[r.IntN(len(l))], true
}

// bent is a copy of a file with one thing changed, so that it often does not fit.
func bent(r *rand.Rand, f decl.File) decl.File {
	f = filled(f)
	name := []string{"main", "f", "g", "h", "a", "b", "v1", "v2", "v3", "v4", "nope", "left"}[r.IntN(12)]
	switch kind := r.IntN(5); {
	case kind == 0 && len(f.Pairs) > 0:
		p := f.Pairs[r.IntN(len(f.Pairs))]
		if r.IntN(2) == 0 {
			p.ProcA = name
		} else {
			p.ProcB = name
		}
		f.Pairs = slices.Insert(f.Pairs, r.IntN(len(f.Pairs)+1), p)
	case kind == 1 && len(f.Sames) > 0:
		s := &f.Sames[r.IntN(len(f.Sames))]
		*[]*string{&s.ProcA, &s.ProcB, &s.VarA, &s.VarB}[r.IntN(4)] = name
	case kind == 2 && len(f.Keeps) > 0:
		k := &f.Keeps[r.IntN(len(f.Keeps))]
		if *[]*string{&k.Proc, &k.Var}[r.IntN(2)] = name; r.IntN(3) == 0 {
			k.Side = 1 - k.Side
		}
	case kind == 3 && len(f.Breaks) > 0:
		b := &f.Breaks[r.IntN(len(f.Breaks))]
		switch r.IntN(4) {
		case 0:
			b.Proc = name
		case 1:
			b.Side = 1 - b.Side
		case 2:
			b.Mark = []int64{-1, 0, b.Mark + 1, b.Mark + 2, 1 << 40, math.MaxInt64, math.MinInt64}[r.IntN(7)]
		case 3:
			b.When = []api.Expr{[]api.Expr{named(name), two(named(name), "==", named(name)), two(element(name, named(name)), "<", whole(1)), {}}[r.IntN(4)]}
		}
	case kind == 4 && len(f.Watches) > 0:
		w := &f.Watches[r.IntN(len(f.Watches))]
		if *[]*string{&w.Proc, &w.Var}[r.IntN(2)] = name; r.IntN(3) == 0 {
			w.Side = 1 - w.Side
		}
	}
	return f
}

func TestMadeFits(t *testing.T) { // P12.3, P12.4: against the second reading, on files that fit, and others
	r := rand.New(rand.NewPCG(12, 3))
	errs := map[api.Errno]int{}
	spots := map[int]int{}
	open := map[api.Errno]int{}
	for range 6000 {
		s := settingOf(t, r)
		f := s.file(r)
		if at, e := decl.Check(f, s.progs[0], s.progs[1]); e != api.OK || at != (decl.Spot{}) {
			t.Fatalf("%v: %v, %d", f, at, e)
		}
		for range r.IntN(4) {
			f = bent(r, f)
		}
		if r.IntN(6) == 0 {
			side := r.IntN(2)
			s.progs[side] = sample.Bent(r.IntN, s.progs[side])
		}
		at, e := decl.Check(f, s.progs[0], s.progs[1])
		wantAt, want := fitting(f, s.progs[0], s.progs[1])
		if at != wantAt || e != want {
			t.Fatalf("Check(%v, %v, %v) = %v, %d, want %v, %d", f, s.progs[0], s.progs[1], at, e, wantAt, want)
		}
		errs[e]++
		spots[at.Kind]++
		for side, p := range s.progs {
			if l, want := decl.Kept(f, side), keptOn(f, side); !slices.Equal(l, want) {
				t.Fatalf("Kept(%v, %d) = %v, want %v", f, side, l, want)
			}
			e, want := decl.Clear(f, side, p), clearOf(f, side, p)
			if e != want {
				t.Fatalf("Clear(%v, %d, %v) = %d, want %d", f, side, p, e, want)
			}
			open[e]++
		}
	}
	for _, e := range []api.Errno{api.OK, api.ErrName, api.ErrPair, api.ErrType, api.ErrPlace, api.ErrForm} {
		if errs[e] < 20 {
			t.Errorf("the error %d only %d times", e, errs[e])
		}
	}
	if len(spots) != 8 || open[api.OK] < 500 || open[api.ErrWatch] < 500 {
		t.Errorf("spots %v, clear %v", spots, open)
	}
}

func TestPrintedIsRead(t *testing.T) { // P12.5, P12.6
	r := rand.New(rand.NewPCG(12, 5))
	for range 3000 {
		f := settingOf(t, r).file(r)
		s, e := decl.Print(f)
		if e != api.OK {
			t.Fatalf("Print(%v): %d", f, e)
		}
		g, at, e := decl.Parse(s)
		if e != api.OK || !alike(f, g) {
			t.Fatalf("Parse(%q) = %v, %d, %d, want %v", s, g, at, e, f)
		}
		// The same lines in another order, those of each kind in order, are the same file; what is read is printed so that it is read the same.
		mixed := mix(r, s)
		g, at, e = decl.Parse(mixed)
		if e != api.OK || !alike(f, g) {
			t.Fatalf("Parse(%q) = %v, %d, %d, want %v", mixed, g, at, e, f)
		}
		if again, e := decl.Print(g); e != api.OK || again != s {
			t.Fatalf("Print of %q = %q, %d", mixed, again, e)
		}
	}
}

// mix is a text with its lines in another order, but those of each kind.
func mix(r *rand.Rand, s string) string {
	byKind := map[string][]string{}
	var kinds []string
	for _, line := range strings.SplitAfter(s, ";") {
		line = strings.TrimSpace(line)
		if line != "" {
			first := strings.Fields(line)[0]
			byKind[first] = append(byKind[first], line)
			kinds = append(kinds, first)
		}
	}
	r.Shuffle(len(kinds), func(i, k int) { kinds[i], kinds[k] = kinds[k], kinds[i] })
	var mixed string
	for _, first := range kinds {
		mixed += byKind[first][0] + []string{"", " ", "\n", "# ; pair\n"}[r.IntN(4)]
		byKind[first] = byKind[first][1:]
	}
	return mixed
}

// turned is a file with its sides and names turned round.
func turned(f decl.File) decl.File {
	f = filled(f)
	for _, l := range [][]api.Pair{f.Pairs, f.Sames} {
		for i, p := range l {
			l[i] = api.Pair{ProcA: p.ProcB, ProcB: p.ProcA, VarA: p.VarB, VarB: p.VarA}
		}
	}
	for i := range f.Keeps {
		f.Keeps[i].Side = 1 - f.Keeps[i].Side
	}
	for i := range f.Breaks {
		f.Breaks[i].Side = 1 - f.Breaks[i].Side
	}
	for i := range f.Watches {
		f.Watches[i].Side = 1 - f.Watches[i].Side
	}
	return f
}

func TestTurnedRound(t *testing.T) { // P12.7
	r := rand.New(rand.NewPCG(12, 7))
	fit := 0
	for range 3000 {
		s := settingOf(t, r)
		f := s.file(r)
		if r.IntN(3) == 0 {
			f = bent(r, f)
		}
		at, e := decl.Check(f, s.progs[0], s.progs[1])
		turnedAt, turnedE := decl.Check(turned(f), s.progs[1], s.progs[0])
		if at != turnedAt || e != turnedE {
			t.Fatalf("%v: %v, %d; turned round %v, %d", f, at, e, turnedAt, turnedE)
		}
		for side := range 2 {
			if !slices.Equal(decl.Kept(f, side), decl.Kept(turned(f), 1-side)) || decl.Clear(f, side, s.progs[side]) != decl.Clear(turned(f), 1-side, s.progs[side]) {
				t.Fatalf("%v: side %d", f, side)
			}
		}
		if e == api.OK {
			fit++
		}
	}
	if fit < 1500 {
		t.Errorf("only %d fitted", fit)
	}
}

func TestLineLess(t *testing.T) { // P12.8
	r := rand.New(rand.NewPCG(12, 8))
	for range 300 {
		s := settingOf(t, r)
		fitsBoth := func(f decl.File) {
			t.Helper()
			if at, e := decl.Check(f, s.progs[0], s.progs[1]); e != api.OK {
				t.Fatalf("%v: %v, %d", f, at, e)
			}
		}
		fitsBoth(decl.File{})
		f := s.file(r)
		for i := range f.Sames {
			g := filled(f)
			g.Sames = slices.Delete(g.Sames, i, i+1)
			fitsBoth(g)
		}
		for i := range f.Keeps {
			g := filled(f)
			g.Keeps = slices.Delete(g.Keeps, i, i+1)
			fitsBoth(g)
		}
		for i := range f.Breaks {
			g := filled(f)
			g.Breaks = slices.Delete(g.Breaks, i, i+1)
			fitsBoth(g)
		}
		for i := range f.Watches {
			g := filled(f)
			g.Watches = slices.Delete(g.Watches, i, i+1)
			fitsBoth(g)
		}
	}
}

func TestOwnMayBeDeclared(t *testing.T) { // W3: each source's own procedures, variables and marks
	r := rand.New(rand.NewPCG(12, 99))
	for range 200 {
		s := settingOf(t, r)
		for side, p := range s.progs {
			text, e := syntax.Print(p)
			if e != api.OK {
				t.Fatal(e)
			}
			p = source(t, text)
			word := []string{"left", "right"}[side]
			for i, q := range p.Procs {
				lines := []string{"pair " + q.Name + " " + q.Name + " ;"}
				for mark := range s.infos[side].Marks[i] + 2 {
					b, e := decl.Print(decl.File{Breaks: []decl.Break{{Side: side, Proc: q.Name, Mark: int64(mark), When: []api.Expr{holding(r, s.infos[side].Vars[i], mark, 3)}}}})
					if e != api.OK {
						t.Fatal(e)
					}
					lines = append(lines, b)
				}
				for _, v := range s.infos[side].Vars[i] {
					lines = append(lines, "keep "+word+" "+q.Name+" "+v.Name+" ;", lines[0]+" same "+q.Name+" ( "+v.Name+" ) "+q.Name+" ( "+v.Name+" ) ;")
					if v.Size == 0 {
						lines = append(lines, "watch "+word+" "+q.Name+" "+v.Name+" ;")
					}
				}
				for _, line := range lines {
					if at, e := decl.Check(file(t, line), p, p); e != api.OK {
						t.Fatalf("%q of %s: %v, %d", line, text, at, e)
					}
				}
			}
		}
	}
}

func TestKeptIsTold(t *testing.T) { // P12.4, W3: a lean build that keeps what is declared tells it
	l := source(t, leftSource)
	f := file(t, "keep left main x ; keep left f n ; watch left f n ; break left f 1 when n == 5 ; break left main 5 when x == 5 ;")
	if at, e := decl.Check(f, l, l); e != api.OK {
		t.Fatal(at, e)
	}
	if e := decl.Clear(f, 0, l); e != api.OK {
		t.Fatal(e)
	}
	b, _, e := gen.Compile(l, decl.Kept(f, 0), false)
	if e != api.OK {
		t.Fatal(e)
	}
	m, e := gen.Start(b, []int64{5}, 100)
	if e != api.OK {
		t.Fatal(e)
	}
	told := 0
	for m.Step() {
		last := m.Frames() - 1
		proc, mark, _, _ := m.Frame(last)
		if name := l.Procs[proc].Name; name == "f" || name == "main" && mark >= 2 && mark <= 9 {
			if v, e := gen.Value(b, m, last, 0); e != api.OK || name == "f" && v[0] != 5 {
				t.Errorf("%s %d: %v, %d", name, mark, v, e)
			}
			told++
		}
	}
	if told < 10 {
		t.Errorf("told %d times", told)
	}
}

// alphabet is words of which texts are made up: those of lines, and some that can not stand.
var alphabet = strings.Fields("pair same keep break watch left right when f g x y left 0 1 2 ( ) ; ; ; < == + ! [ ] true , proc = && 7")

// spoilt is a text with some of its tokens dropped, doubled, changed or put elsewhere.
func spoilt(r *rand.Rand, s string) string {
	words := strings.Fields(s)
	for range 1 + r.IntN(3) {
		if len(words) == 0 {
			break
		}
		i := r.IntN(len(words))
		switch r.IntN(5) {
		case 0:
			words = slices.Delete(words, i, i+1)
		case 1:
			words = slices.Insert(words, i, words[i])
		case 2:
			words[i] = alphabet[r.IntN(len(alphabet))]
		case 3:
			k := r.IntN(len(words))
			words[i], words[k] = words[k], words[i]
		case 4:
			words = words[:i]
		}
	}
	return strings.Join(words, " ")
}

// readsAlike asks that a text is read as the second reading reads it.
func readsAlike(t *testing.T, s string) api.Errno {
	t.Helper()
	f, at, e := decl.Parse(s)
	want, wantPlaces, wantAt, wantE := parse(s)
	if e != wantE || at != wantAt || !alike(f, want) {
		t.Fatalf("Parse(%q) = %v, %d, %d, want %v, %d, %d", s, f, at, e, want, wantAt, wantE)
	}
	if places, ok := decl.Places(s); ok != (e == api.OK) || !reflect.DeepEqual(places, wantPlaces) {
		t.Fatalf("Places(%q) = %v, %v, want %v", s, places, ok, wantPlaces)
	}
	return e
}

func TestReadAlike(t *testing.T) { // P12.1, P12.9: against the second reading
	r := rand.New(rand.NewPCG(12, 1))
	errs := map[api.Errno]int{}
	for range 6000 {
		s, e := decl.Print(settingOf(t, r).file(r))
		if e != api.OK {
			t.Fatal(e)
		}
		many := strings.Repeat(s+" ", 6)
		switch r.IntN(5) {
		case 0:
			s = mix(r, s)
		case 1:
			s = spoilt(r, s)
		case 2:
			s = mix(r, many)
		case 3:
			s = spoilt(r, mix(r, many))
		case 4:
			var words []string
			for range r.IntN(12) {
				words = append(words, alphabet[r.IntN(len(alphabet))])
			}
			s = strings.Join(words, " ")
		}
		errs[readsAlike(t, s)]++
	}
	if errs[api.OK] < 1000 || errs[api.ErrSyntax] < 1000 || errs[api.ErrLong] < 200 {
		t.Errorf("%v", errs)
	}
}

func FuzzDecl(f *testing.F) { // P1, P12.1, P12.5, P12.6
	for _, line := range kindLines {
		f.Add(line)
	}
	f.Add("pair f g ; same f ( x ) g ( y ) ; break left f 2 when x < 3 ;")
	f.Fuzz(func(t *testing.T, s string) {
		if readsAlike(t, s) != api.OK {
			return
		}
		read, _, _ := decl.Parse(s)
		text, e := decl.Print(read)
		if e == api.ErrForm { // what stands in too many brackets
			return
		}
		if e != api.OK {
			t.Fatalf("Print of %q: %d", s, e)
		}
		if again, _, e := decl.Parse(text); e == api.OK && !alike(read, again) || e != api.OK && e != api.ErrLong {
			t.Fatalf("%q: %d, %v, %v", s, e, read, again)
		}
		if row, _, e := lex.Scan(text); e != api.OK && e != api.ErrLong {
			t.Fatalf("%q: %v, %d", s, row, e)
		}
	})
}
