package consts_test

import (
	"math"
	"math/rand/v2"
	"reflect"
	"slices"
	"testing"

	"parallax/api"
	"parallax/check"
	"parallax/consts"
	"parallax/fold"
	"parallax/sample"
	"parallax/syntax"
)

// made is a right program and its variables, the same ones for a seed in each run.
func made(t *testing.T, seed uint64) (api.Prog, check.Info, *rand.Rand) {
	t.Helper()
	r := rand.New(rand.NewPCG(seed, 9))
	p := sample.Prog(r.IntN)
	info, at, e := check.Check(p)
	if e != api.OK {
		t.Fatalf("%v is wrong at %v: %d", p, at, e)
	}
	return p, info, r
}

// text is a program's, for what is told of a fault.
func text(p ...api.Proc) string {
	s, _ := syntax.Print(api.Prog{Procs: p})
	return s
}

// asks holds what is told of a right procedure against the second reading.
func asks(t *testing.T, p api.Proc, vars []api.Var) {
	t.Helper()
	want := known(p, vars)
	var wanted []consts.State
	for _, f := range want {
		wanted = append(wanted, stated(f, vars))
	}
	got := consts.Find(p, vars)
	if states(got, vars) != states(wanted, vars) {
		t.Fatalf("%s: known is\n%s; want\n%s", text(p), states(got, vars), states(wanted, vars))
	}
	applied := consts.Apply(p, vars)
	if applied.Name != p.Name || applied.Type != p.Type || !slices.Equal(applied.Params, p.Params) || check.Count(applied) != check.Count(p) {
		t.Fatalf("%s is another procedure than %s", text(applied), text(p))
	}
	for mark, f := range want {
		s, _ := check.Stmt(p, mark)
		q, _ := check.Stmt(applied, mark)
		here := sight{vars, mark, f}
		for i, x := range s.E {
			if n := told(consts.Answer(x, vars, mark, got[mark])); n != here.answer(x) {
				t.Fatalf("%s: at %d %v is %s; want %s", text(p), mark, x, n, here.answer(x))
			}
			y := sample.CopyExprs(x)[0]
			if f != nil {
				y = fold.Expr(here.filled(x))
			}
			if l := sample.CopyExprs(q.E[i], y); !reflect.DeepEqual(l[0], l[1]) {
				t.Fatalf("%s: at %d stands %v; want %v", text(p), mark, l[0], l[1])
			}
		}
		s.E, s.Body, s.Else, q.E, q.Body, q.Else = nil, nil, nil, nil, nil, nil
		if !reflect.DeepEqual(s, q) {
			t.Fatalf("%s: at %d stands %v; want %v", text(p), mark, q, s)
		}
	}
}

func TestMade(t *testing.T) { // P7.1 to P7.3 against a second reading
	for seed := range uint64(1500) {
		p, info, _ := made(t, seed)
		for i, q := range p.Procs {
			asks(t, q, info.Vars[i])
		}
	}
}

// inputs are some inputs.
func inputs(r *rand.Rand) []int64 {
	var l []int64
	for range r.IntN(6) {
		l = append(l, int64(r.IntN(9)-3))
	}
	return l
}

func TestTrue(t *testing.T) { // P7.4
	numbers, dead := 0, 0
	for seed := range uint64(1000) {
		p, info, r := made(t, seed)
		var l [][]consts.State
		for i, q := range p.Procs {
			l = append(l, consts.Find(q, info.Vars[i]))
			for _, s := range l[i] {
				if !s.Reached {
					dead++
				}
			}
		}
		h, e := fold.Run(p, inputs(r), 250)
		if e != api.OK {
			t.Fatal(e)
		}
		for _, x := range h.Pos {
			for _, f := range x.Frames {
				s := l[f.Proc][f.Mark]
				if !s.Reached {
					t.Fatalf("%s comes to %d of %d", text(p.Procs...), f.Mark, f.Proc)
				}
				for i := range s.Known {
					if s.Known[i] && s.Nums[i] != f.Vals[i][0] {
						t.Fatalf("%s: at %d of %d %d is %d, not %d", text(p.Procs...), f.Mark, f.Proc, i, f.Vals[i][0], s.Nums[i])
					}
					if s.Known[i] {
						numbers++
					}
				}
			}
		}
	}
	if numbers < 50000 || dead < 1000 {
		t.Errorf("%d numbers were known, %d marks are not reached", numbers, dead)
	}
}

func TestSameHistory(t *testing.T) { // P7.5
	changed := 0
	for seed := range uint64(1500) {
		p, info, r := made(t, seed)
		q, e := consts.Prog(p)
		if e != api.OK {
			t.Fatal(e)
		}
		again, at, e := check.Check(q)
		if e != api.OK || !reflect.DeepEqual(info, again) {
			t.Fatalf("%s, applied, is %s: %d at %v", text(p.Procs...), text(q.Procs...), e, at)
		}
		input := inputs(r)
		h, _ := fold.Run(p, input, 200)
		g, _ := fold.Run(q, input, 200)
		if !reflect.DeepEqual(h, g) {
			t.Fatalf("%s does other things than %s", text(q.Procs...), text(p.Procs...))
		}
		if text(p.Procs...) != text(q.Procs...) {
			changed++
		}
	}
	if changed < 1000 {
		t.Errorf("%d programs are changed", changed)
	}
}

func TestAppliedKnows(t *testing.T) { // P7.6
	for seed := range uint64(1500) {
		p, info, _ := made(t, seed)
		for k, q := range p.Procs {
			before := consts.Find(q, info.Vars[k])
			after := consts.Find(consts.Apply(q, info.Vars[k]), info.Vars[k])
			for mark, s := range after {
				if !s.Reached {
					continue
				}
				if !before[mark].Reached {
					t.Fatalf("%s: %d is reached behind an application alone", text(q), mark)
				}
				for i := range s.Known {
					if before[mark].Known[i] && (!s.Known[i] || s.Nums[i] != before[mark].Nums[i]) {
						t.Fatalf("%s: at %d %d is not known behind an application", text(q), mark, i)
					}
				}
			}
		}
	}
}

// straight is a copy of a procedure without arrays, reads, loops and calls that take an answer.
func straight(q api.Proc) api.Proc {
	nothing := api.Stmt{Kind: api.SPrint, E: []api.Expr{whole(0)}}
	p := sample.Changed(api.Prog{Procs: []api.Proc{q}}, func(s api.Stmt) api.Stmt {
		switch {
		case s.Kind == api.SWhile:
			s.Kind = api.SIf
		case s.Kind == api.SRead:
			return api.Stmt{Kind: api.SSet, Name: s.Name, E: []api.Expr{whole(6)}}
		case s.Kind == api.SCall:
			s.Name = ""
		case s.Kind == api.SPut || s.Kind == api.SVar && s.Num > 0:
			return nothing
		}
		return s
	}, func(x api.Expr) api.Expr {
		if x.Kind == api.EIndex {
			return x.L[0]
		}
		return x
	})
	return p.Procs[0]
}

func TestKnowsAll(t *testing.T) { // P7.7
	told := 0
	for seed := range uint64(2000) {
		p, _, _ := made(t, seed)
		i := slices.IndexFunc(p.Procs, func(q api.Proc) bool { return q.Name == "main" })
		p.Procs[i] = straight(p.Procs[i])
		info, at, e := check.Check(p)
		if e != api.OK {
			t.Fatalf("%s: %d at %v", text(p.Procs...), e, at)
		}
		for mark, s := range consts.Find(p.Procs[i], info.Vars[i]) {
			for k := range s.Known {
				if s.Known[k] != s.Reached {
					t.Fatalf("%s: at %d %s is not known", text(p.Procs[i]), mark, info.Vars[i][k].Name)
				}
				told++
			}
		}
	}
	if told < 10000 {
		t.Errorf("%d numbers", told)
	}
}

// spoilExprs and spoilStmts write over all that there is, and behind its end.
func spoilExprs(l []api.Expr) {
	_ = append(l, api.Expr{Kind: 77}, api.Expr{Kind: 77})
	for i := range l {
		spoilExprs(l[i].L)
		l[i] = api.Expr{Kind: 77}
	}
}

func spoilStmts(l []api.Stmt) {
	_ = append(l, api.Stmt{Kind: 77}, api.Stmt{Kind: 77})
	for i := range l {
		spoilExprs(l[i].E)
		spoilStmts(l[i].Body)
		spoilStmts(l[i].Else)
		l[i] = api.Stmt{Kind: 77}
	}
}

func TestOwn(t *testing.T) { // what is handed in stays, what is answered is new memory
	for seed := range uint64(300) {
		p, info, _ := made(t, seed)
		before := sample.Copy(p)
		for i, q := range p.Procs {
			vars := slices.Clone(info.Vars[i])
			l := consts.Find(q, vars)
			want := states(l, vars)
			for k := range l {
				other := consts.Find(q, vars)
				_ = append(other[k].Known, true)
				_ = append(other[k].Nums, 7)
				for m := range other[k].Known {
					other[k].Known[m], other[k].Nums[m] = true, 77
				}
				other[k] = l[k]
				if states(other, vars) != want {
					t.Fatalf("%s: the state at %d is shared", text(q), k)
				}
			}
			a := consts.Apply(q, vars)
			again := sample.Copy(api.Prog{Procs: []api.Proc{a}})
			other := consts.Apply(q, vars)
			spoilStmts(other.Body)
			for k := range other.Params {
				other.Params[k].Name = "changed"
			}
			if !reflect.DeepEqual(sample.Copy(api.Prog{Procs: []api.Proc{a}}), again) || !slices.Equal(vars, info.Vars[i]) {
				t.Fatalf("%s is shared", text(a))
			}
		}
		all, _ := consts.Prog(p)
		for _, q := range all.Procs {
			spoilStmts(q.Body)
		}
		if !reflect.DeepEqual(sample.Copy(p), before) {
			t.Fatalf("%v was changed", before)
		}
	}
}

// deepest is how many parts may stand in one another.
const deepest = 1<<16 - 2

func TestDeep(t *testing.T) { // P1: as many parts in one another as are promised
	for _, kind := range []int{api.SWhile, api.SIf} {
		l := []api.Stmt{{Kind: api.SSet, Name: "x", E: []api.Expr{two(named("x"), "-", whole(1))}}}
		for range deepest {
			l = []api.Stmt{{Kind: kind, E: []api.Expr{two(named("x"), "<", whole(3))}, Body: l}}
		}
		q := api.Proc{Name: "main", Body: append([]api.Stmt{{Kind: api.SVar, Name: "x"}}, l...)}
		vars := []api.Var{{Name: "x", Type: api.Int, From: 2, To: deepest + 2}}
		s := consts.Find(q, vars)
		if at := s[deepest+2]; len(s) != deepest+4 || !at.Reached || at.Known[0] != (kind == api.SIf) {
			t.Errorf("deep statements: %v", at)
		}
		if n := check.Count(consts.Apply(q, vars)); n != deepest+2 {
			t.Errorf("%d statements", n)
		}
	}
	x := named("x")
	for range deepest {
		x = sign("-", x)
	}
	vars, s := someVars()
	if got := told(consts.Answer(x, vars, 4, s)); got != "5" {
		t.Errorf("a deep expression: %s", got)
	}
}

// exprs are the expressions of a procedure, and their parts.
func exprs(q api.Proc) []api.Expr {
	var all []api.Expr
	sample.Changed(api.Prog{Procs: []api.Proc{q}}, func(s api.Stmt) api.Stmt { return s }, func(x api.Expr) api.Expr {
		all = append(all, x)
		return x
	})
	return all
}

func TestOdd(t *testing.T) { // P1: programs and variables that may not be
	for seed := range uint64(2000) {
		p, info, r := made(t, seed)
		for range 1 + r.IntN(6) {
			p = sample.Bent(r.IntN, p)
		}
		_, _, want := check.Check(p)
		if q, e := consts.Prog(p); e != want || e != api.OK && len(q.Procs) > 0 {
			t.Fatalf("Prog: %d; want %d", e, want)
		}
		for _, q := range p.Procs {
			vars := sample.OddVars(r.IntN, info.Vars[0])
			l := consts.Find(q, vars)
			if len(l) != check.Count(q)+2 {
				t.Fatalf("%d states", len(l))
			}
			if n := check.Count(consts.Apply(q, vars)); n != check.Count(q) {
				t.Fatalf("%d statements", n)
			}
			for _, x := range exprs(q) {
				for _, mark := range []int{math.MinInt, -1, 0, 3, math.MaxInt} {
					s := l[r.IntN(len(l))]
					s.Known = s.Known[:r.IntN(len(s.Known)+1)]
					if _, kind := consts.Answer(x, vars, mark, s); kind < 0 || kind > 2 {
						t.Fatalf("Answer: %d", kind)
					}
				}
			}
		}
	}
	if l := consts.Find(api.Proc{}, nil); len(l) != 2 || !l[0].Reached || !l[1].Reached {
		t.Errorf("Find of nothing: %v", l)
	}
}

func TestAnswersBent(t *testing.T) { // P7.2 against a second reading, of expressions that may be built otherwise
	found, odd := [3]int{}, 0
	for seed := range uint64(2000) {
		p, info, r := made(t, seed)
		for range 1 + r.IntN(5) {
			p = sample.BentExpr(r.IntN, p)
		}
		for i, q := range p.Procs {
			vars := info.Vars[i]
			f := facts{}
			for k, v := range vars {
				if v.Size == 0 && r.IntN(3) > 0 {
					f[k] = int64(r.IntN(4) - 1)
				}
			}
			for mark := range check.Count(q) + 1 {
				s, _ := check.Stmt(q, mark)
				for _, x := range s.E {
					if hasOddTruth(x) {
						odd++
					}
					n, kind := consts.Answer(x, vars, mark, stated(f, vars))
					if want := (sight{vars, mark, f}).answer(x); told(n, kind) != want {
						t.Fatalf("Answer(%v) = %s; want %s", x, told(n, kind), want)
					}
					found[kind]++
				}
			}
		}
	}
	if slices.Min(found[:]) < 200 || odd < 50 {
		t.Errorf("answers: %v, %d with an EBool that is neither true nor false", found, odd)
	}
}

// hasOddTruth tells whether there is an EBool that is neither true nor false.
func hasOddTruth(x api.Expr) bool {
	return x.Kind == api.EBool && x.Num != 0 && x.Num != 1 || slices.ContainsFunc(x.L, hasOddTruth)
}

// FuzzConsts holds what is told against the second reading on programs that numbers pick.
func FuzzConsts(f *testing.F) {
	f.Add(uint64(0), uint64(1))
	f.Fuzz(func(t *testing.T, a, b uint64) {
		p := sample.Prog(rand.New(rand.NewPCG(a, b)).IntN)
		info, _, _ := check.Check(p)
		for i, q := range p.Procs {
			asks(t, q, info.Vars[i])
		}
	})
}
