package live_test

import (
	"math"
	"math/rand/v2"
	"reflect"
	"slices"
	"testing"

	"parallax/api"
	"parallax/check"
	"parallax/fold"
	"parallax/live"
	"parallax/sample"
	"parallax/syntax"
)

// made is a right program and its variables, the same ones for a seed in each run.
func made(t *testing.T, seed uint64) (api.Prog, check.Info, *rand.Rand) {
	t.Helper()
	r := rand.New(rand.NewPCG(seed, 8))
	p := sample.Prog(r.IntN)
	info, at, e := check.Check(p)
	if e != api.OK {
		t.Fatalf("%v is wrong at %v: %d", p, at, e)
	}
	return p, info, r
}

// text is a program's, for what is told of a fault.
func text(p ...api.Proc) string {
	s, _ := syntax.Print(api.Prog{Procs: p})
	return s
}

// some are some of the variables' names, and a name of none.
func some(r *rand.Rand, vars []api.Var) []string {
	l := []string{"nope"}
	for _, v := range vars {
		if r.IntN(3) == 0 {
			l = append(l, v.Name)
		}
	}
	return l
}

// alike tells whether two are the same but for lists that are nil or empty.
func alike[T any](a, b [][]T) bool {
	return slices.EqualFunc(a, b, func(x, y []T) bool { return len(x) == len(y) && (len(x) == 0 || reflect.DeepEqual(x, y)) })
}

// asks holds what is told of a right procedure against the second reading.
func asks(t *testing.T, p api.Proc, vars []api.Var, kept []string) {
	t.Helper()
	all := entries(p)
	var next [][]int
	var wanted [][]bool
	for mark := range len(all) + 2 {
		next = append(next, live.Next(p, mark))
		row := make([]bool, len(vars))
		for i, v := range vars {
			row[i] = isNeeded(all, v, mark)
		}
		wanted = append(wanted, row)
		if l := nexts(all, mark); !slices.Equal(l, next[mark]) {
			t.Fatalf("%s: behind %d comes %v; want %v", text(p), mark, next[mark], l)
		}
	}
	if got := live.Needed(p, vars); !alike(got, wanted) {
		t.Fatalf("%s: needed are %s; want %s", text(p), rows(got, vars), rows(wanted, vars))
	}
	for _, plain := range []bool{false, true} {
		got, want := live.Make(p, vars, kept, plain), table(p, vars, kept, plain)
		if !alike(got.At, want.At) || !alike(got.Over, want.Over) || !slices.Equal(got.Cells, want.Cells) || got.Size != want.Size {
			t.Fatalf("%s: kept %v, plain %v: %v; want %v", text(p), kept, plain, got, want)
		}
	}
	for i, e := range all {
		var l []int
		set := -1
		for k, v := range vars {
			if reads(e.Stmt, v) {
				l = append(l, k)
			}
			if sets(e.Stmt, v) {
				set = k
			}
		}
		if got := live.Reads(e.Stmt, vars, i+1); !slices.Equal(got, l) {
			t.Fatalf("%s: at %d %v are read; want %v", text(p), i+1, got, l)
		}
		if got := live.Sets(e.Stmt, vars, i+1); got != set {
			t.Fatalf("%s: at %d %d is set; want %d", text(p), i+1, got, set)
		}
	}
}

func TestMade(t *testing.T) { // P6.1 to P6.4 against a second reading
	for seed := range uint64(500) {
		p, info, r := made(t, seed)
		for i, q := range p.Procs {
			asks(t, q, info.Vars[i], some(r, info.Vars[i]))
		}
	}
}

// shares tells whether two variables have a cell together.
func shares(l live.Table, vars []api.Var, i, j int) bool {
	return l.Cells[i] < l.Cells[j]+max(vars[j].Size, 1) && l.Cells[j] < l.Cells[i]+max(vars[i].Size, 1)
}

func TestTold(t *testing.T) { // P6.5, P6.6
	together := 0
	for seed := range uint64(1000) {
		p, info, r := made(t, seed)
		for k, q := range p.Procs {
			vars, kept, plain := info.Vars[k], some(r, info.Vars[k]), r.IntN(4) == 0
			l := live.Make(q, vars, kept, plain)
			for i, v := range vars {
				always := plain || slices.Contains(kept, v.Name)
				for mark := range l.At {
					in := v.From <= mark && mark <= v.To
					s, _ := check.Stmt(q, mark)
					if always && in && (!l.At[mark][i] || s.Kind == api.SCall && !l.Over[mark][i]) || !in && (l.At[mark][i] || l.Over[mark][i]) {
						t.Fatalf("%s: %s is told or not at %d", text(q), v.Name, mark)
					}
				}
				if i < len(q.Params) && l.Cells[i] != i {
					t.Fatalf("%s: the parameter %d lies at %d", text(q), i, l.Cells[i])
				}
				for j := range i {
					if !shares(l, vars, i, j) {
						continue
					}
					together++
					if plain || meet(l, i, j) {
						t.Fatalf("%s: %s and %s lie together", text(q), v.Name, vars[j].Name)
					}
				}
			}
		}
	}
	if together < 1000 {
		t.Errorf("%d pairs lie together", together)
	}
}

func TestKeptMore(t *testing.T) { // P6.7, P6.9
	for seed := range uint64(1000) {
		p, info, r := made(t, seed)
		for k, q := range p.Procs {
			vars := info.Vars[k]
			kept := some(r, vars)
			few, many := live.Make(q, vars, kept, false), live.Make(q, vars, append(some(r, vars), kept...), false)
			for mark := range few.At {
				for i := range vars {
					if few.At[mark][i] && !many.At[mark][i] || few.Over[mark][i] && !many.Over[mark][i] {
						t.Fatalf("%s: %s is not told at %d, if more is kept", text(q), vars[i].Name, mark)
					}
				}
			}
			if plain := live.Make(q, vars, kept, true); few.Size > plain.Size || many.Size > plain.Size {
				t.Fatalf("%s: %d and %d cells, plain %d", text(q), few.Size, many.Size, plain.Size)
			}
		}
	}
}

func TestReadNowhere(t *testing.T) { // P6.8
	found := 0
	for seed := range uint64(1000) {
		p, info, _ := made(t, seed)
		for k, q := range p.Procs {
			needed := live.Needed(q, info.Vars[k])
			for i, v := range info.Vars[k] {
				if slices.ContainsFunc(entries(q), func(e entry) bool { return reads(e.Stmt, v) }) {
					continue
				}
				found++
				if slices.ContainsFunc(needed, func(row []bool) bool { return row[i] }) {
					t.Fatalf("%s: %s is needed", text(q), v.Name)
				}
			}
		}
	}
	if found < 500 {
		t.Errorf("%d variables are read nowhere", found)
	}
}

func TestRunsGoOn(t *testing.T) { // P6.2: from tick to tick of a frame runs go to what comes next
	for seed := range uint64(500) {
		p, info, _ := made(t, seed)
		h, e := fold.Run(p, []int64{1, 0, 3}, 300)
		if e != api.OK {
			t.Fatal(e)
		}
		last := make([]int, api.MaxDepth+1) // of each depth the last mark
		for _, x := range h.Pos {
			d := x.Tick.Depth
			if x.Tick.Mark > 0 && !slices.Contains(live.Next(p.Procs[x.Tick.Proc], last[d]), x.Tick.Mark) {
				t.Fatalf("%s: behind %d came %d", text(p.Procs[x.Tick.Proc]), last[d], x.Tick.Mark)
			}
			last[d] = x.Tick.Mark
			if x.Tick.Kind == api.MLeave && x.Tick.Mark != info.Marks[x.Tick.Proc]+1 {
				t.Fatalf("left at %d", x.Tick.Mark)
			}
		}
	}
}

// put is a block in which a statement is put ahead of that of a mark, which counts down as statements are gone by.
func put(l []api.Stmt, s api.Stmt, mark *int) []api.Stmt {
	var all []api.Stmt
	for _, x := range l {
		*mark--
		if *mark == 0 {
			all = append(all, s)
		}
		x.Body, x.Else = put(x.Body, s, mark), put(x.Else, s, mark)
		all = append(all, x)
	}
	return all
}

// change is a statement that gives a variable another value.
func change(r *rand.Rand, v api.Var) api.Stmt {
	switch {
	case v.Size > 0:
		return api.Stmt{Kind: api.SPut, Name: v.Name, E: []api.Expr{whole(int64(r.IntN(v.Size))), whole(77)}}
	case v.Type == api.Bool:
		return api.Stmt{Kind: api.SSet, Name: v.Name, E: []api.Expr{{Kind: api.EUn, Name: "!", L: []api.Expr{named(v.Name)}}}}
	}
	return api.Stmt{Kind: api.SSet, Name: v.Name, E: []api.Expr{two(named(v.Name), "-", whole(int64(1+r.IntN(77))))}}
}

// seen is what is seen of a history: ticks, counts of events, and events.
type seen struct {
	ticks  []api.Tick
	counts []int
	events []api.Event
}

// without is what is seen of a history, but for the mark of a procedure, as if that one were not there.
func without(h fold.History, proc, mark int) seen {
	s := seen{events: h.Events}
	for _, x := range h.Pos {
		if x.Tick.Proc == proc && x.Tick.Mark == mark {
			continue
		}
		if x.Tick.Proc == proc && x.Tick.Mark > mark {
			x.Tick.Mark--
		}
		s.ticks, s.counts = append(s.ticks, x.Tick), append(s.counts, x.Count)
	}
	return s
}

// begins tells whether what is seen begins as something else, of a run that may have had too little fuel.
func (s seen) begins(as seen) bool {
	n := len(as.events) - 1
	if as.events[n].Kind != api.EvFuel {
		n++
		if len(s.ticks) != len(as.ticks) || len(s.events) != n {
			return false
		}
	}
	if len(s.ticks) < len(as.ticks) || len(s.events) < n {
		return false
	}
	k := len(as.ticks)
	return slices.Equal(s.ticks[:k], as.ticks) && slices.Equal(s.counts[:k], as.counts) && slices.Equal(s.events[:n], as.events[:n])
}

// changed tells whether a run is seen to be another one, if a variable gets another value wherever it comes to a mark.
func changed(t *testing.T, p api.Prog, r *rand.Rand, proc, mark int, v api.Var) bool {
	t.Helper()
	input := []int64{2, 0, -1}
	q := sample.Copy(p)
	at := mark
	q.Procs[proc].Body = put(q.Procs[proc].Body, change(r, v), &at)
	before, e := fold.Run(p, input, 150)
	after, f := fold.Run(q, input, 600)
	if e != api.OK || f != api.OK {
		t.Fatalf("%s: %d, %d", text(q.Procs...), e, f)
	}
	return !without(after, proc, mark).begins(without(before, -1, 0))
}

func TestNotNeeded(t *testing.T) { // P6.10
	tried, seen := 0, 0
	for seed := range uint64(400) {
		p, info, r := made(t, seed)
		for i, q := range p.Procs {
			needed := live.Needed(q, info.Vars[i])
			for range 6 {
				if info.Marks[i] == 0 || len(info.Vars[i]) == 0 {
					break
				}
				mark, k := 1+r.IntN(info.Marks[i]), r.IntN(len(info.Vars[i]))
				v := info.Vars[i][k]
				if mark < v.From || v.To < mark {
					continue
				}
				is := changed(t, p, r, i, mark, v)
				if is && !needed[mark][k] {
					t.Fatalf("%s: %s is not needed at %d of %s", text(p.Procs...), v.Name, mark, q.Name)
				}
				if needed[mark][k] && is {
					seen++
				}
				if !needed[mark][k] {
					tried++
				}
			}
		}
	}
	if tried < 300 || seen < 100 {
		t.Errorf("%d that are not needed were changed; %d changes were seen", tried, seen)
	}
}

// spoil writes over rows, and behind their ends.
func spoil(l [][]bool) {
	for _, row := range l {
		_ = append(row, true, true)
		for i := range row {
			row[i] = !row[i]
		}
	}
}

func TestOwn(t *testing.T) { // what is handed in stays, what is answered is new memory
	for seed := range uint64(100) {
		p, info, r := made(t, seed)
		before := sample.Copy(p)
		for i, q := range p.Procs {
			vars := slices.Clone(info.Vars[i])
			kept := some(r, vars)
			names := slices.Clone(kept)
			first := live.Make(q, vars, kept, false)
			asks(t, q, vars, kept)
			needed, l := live.Needed(q, vars), live.Make(q, vars, kept, false)
			spoil(needed)
			spoil(l.At)
			if !alike(l.Over, first.Over) {
				t.Fatal("At and Over share memory")
			}
			spoil(l.Over)
			for k, row := range first.At {
				for m := range row {
					if l.At[k][m] == row[m] || l.Over[k][m] == first.Over[k][m] {
						t.Fatal("rows share memory")
					}
				}
			}
			if !slices.Equal(vars, info.Vars[i]) || !slices.Equal(kept, names) || !reflect.DeepEqual(sample.Copy(p), before) {
				t.Fatalf("%v was changed", before)
			}
		}
	}
}

func TestManyVars(t *testing.T) { // as many as check takes, each needed till the end
	var q api.Proc
	q.Name = "main"
	sum := whole(0)
	for i := range api.MaxVars {
		name := "v" + string(rune('0'+i/10)) + string(rune('0'+i%10))
		q.Body = append(q.Body, api.Stmt{Kind: api.SVar, Name: name, Num: api.MaxSize})
		sum = two(sum, "+", api.Expr{Kind: api.EIndex, Name: name, L: []api.Expr{whole(0)}})
	}
	q.Body = append(q.Body, api.Stmt{Kind: api.SPrint, E: []api.Expr{sum}})
	info, _, e := check.Check(api.Prog{Procs: []api.Proc{q}})
	if e != api.OK {
		t.Fatal(e)
	}
	l := live.Make(q, info.Vars[0], nil, false)
	for i, cell := range l.Cells {
		if cell != i*api.MaxSize || !l.At[61][i] {
			t.Fatalf("%d lies at %d", i, cell)
		}
	}
	if l.Size != api.MaxVars*api.MaxSize || numbers(live.Reads(q.Body[60], info.Vars[0], 61)) != numbers(upTo(api.MaxVars)) {
		t.Errorf("%d cells, %v are read", l.Size, live.Reads(q.Body[60], info.Vars[0], 61))
	}
}

func upTo(n int) []int {
	var l []int
	for i := range n {
		l = append(l, i)
	}
	return l
}

// deepest is how many statements may stand in one another.
const deepest = 1<<16 - 2

func TestDeep(t *testing.T) { // P1: as many parts in one another as are promised
	for _, kind := range []int{api.SWhile, api.SIf} {
		l := []api.Stmt{{Kind: api.SSet, Name: "x", E: []api.Expr{whole(1)}}}
		for range deepest {
			l = []api.Stmt{{Kind: kind, E: []api.Expr{two(named("x"), "<", whole(3))}, Body: l}}
		}
		q := api.Proc{Name: "main", Body: append([]api.Stmt{{Kind: api.SVar, Name: "x"}}, l...)}
		vars := []api.Var{{Name: "x", Type: api.Int, From: 2, To: deepest + 2}}
		needed := live.Needed(q, vars)
		if len(needed) != deepest+4 || needed[1][0] || !needed[2][0] || !needed[deepest+1][0] || needed[deepest+2][0] {
			t.Error("needed in deep statements")
		}
		if m := live.Make(q, vars, nil, false); m.Size != 1 || len(m.At) != deepest+4 {
			t.Error("cells in deep statements")
		}
		want := []int{deepest + 1}
		if kind == api.SIf {
			want[0] = deepest + 3
		}
		if got := live.Next(q, deepest+2); !slices.Equal(got, want) {
			t.Errorf("Next: %v; want %v", got, want)
		}
	}
	x := named("x")
	for range deepest {
		x = api.Expr{Kind: api.EUn, Name: "-", L: []api.Expr{x}}
	}
	if got := live.Reads(api.Stmt{Kind: api.SPrint, E: []api.Expr{x}}, []api.Var{{Name: "x", To: 3}}, 2); !slices.Equal(got, []int{0}) {
		t.Errorf("Reads: %v", got)
	}
}

func TestOdd(t *testing.T) { // P1: procedures, variables and marks that may not be
	for seed := range uint64(2000) {
		p, info, r := made(t, seed)
		for range 1 + r.IntN(6) {
			p = sample.Bent(r.IntN, p)
		}
		for _, q := range p.Procs {
			vars := sample.OddVars(r.IntN, info.Vars[0])
			n := check.Count(q) + 2
			kept := []string{"v1", "", "v9"}
			if needed := live.Needed(q, vars); len(needed) != n {
				t.Fatalf("%d rows", len(needed))
			}
			if l := live.Make(q, vars, kept, r.IntN(2) == 0); len(l.At) != n || len(l.Over) != n || len(l.Cells) != len(vars) || l.Size < 0 {
				t.Fatalf("%v", l)
			}
			for _, e := range entries(q) {
				for _, mark := range []int{math.MinInt, -1, 0, 1, n, math.MaxInt} {
					live.Reads(e.Stmt, vars, mark)
					if i := live.Sets(e.Stmt, vars, mark); i < -1 || i >= len(vars) {
						t.Fatalf("%d is set", i)
					}
					live.Next(q, mark)
				}
			}
		}
	}
	live.Reads(api.Stmt{}, nil, 0)
	if i := live.Sets(api.Stmt{}, nil, 0); i != -1 {
		t.Errorf("Sets of nothing: %d", i)
	}
	if l := live.Needed(api.Proc{}, nil); len(l) != 2 {
		t.Errorf("Needed of nothing: %v", l)
	}
}

// FuzzLive holds what is told against the second reading on programs that numbers pick.
func FuzzLive(f *testing.F) {
	f.Add(uint64(0), uint64(1))
	f.Fuzz(func(t *testing.T, a, b uint64) {
		r := rand.New(rand.NewPCG(a, b))
		p := sample.Prog(r.IntN)
		info, _, _ := check.Check(p)
		for i, q := range p.Procs {
			asks(t, q, info.Vars[i], some(r, info.Vars[i]))
		}
	})
}
