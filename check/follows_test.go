package check_test

import (
	"math"
	"math/rand/v2"
	"reflect"
	"testing"

	"parallax/api"
	"parallax/check"
	"parallax/sample"
	"parallax/syntax"
)

// made is a right program, the same one for a seed in each run.
func made(seed uint64) (api.Prog, *rand.Rand) {
	r := rand.New(rand.NewPCG(seed, 4))
	return sample.Prog(r.IntN), r
}

func TestCheckMade(t *testing.T) { // P4.1, P4.2 against a second reading
	for seed := range uint64(3000) {
		p, _ := made(seed)
		info := takesProg(t, p)
		want, _, e := checks(p)
		if e != api.OK || !same(info, want) {
			text, _ := syntax.Print(p)
			t.Fatalf("Check(%q) = %v; want %v, %d", text, info, want, e)
		}
	}
}

func TestCheckBent(t *testing.T) { // P4.1, P4.2 against a second reading
	found := map[api.Errno]int{}
	for seed := range uint64(20000) {
		p, r := made(seed)
		for range 1 + r.IntN(3) {
			p = sample.Bent(r.IntN, p)
		}
		before := sample.Copy(p)
		info, at, e := check.Check(p)
		wantInfo, wantAt, wantE := checks(p)
		if !same(info, wantInfo) || at != wantAt || e != wantE {
			t.Fatalf("Check(%v) = %v, %v, %d; want %v, %v, %d", p, info, at, e, wantInfo, wantAt, wantE)
		}
		if !reflect.DeepEqual(before, sample.Copy(p)) {
			t.Fatalf("Check changed %v", before)
		}
		found[e]++
	}
	for _, e := range []api.Errno{api.OK, api.ErrForm, api.ErrLong, api.ErrName, api.ErrType, api.ErrMain, api.ErrReturn} {
		if found[e] < 20 {
			t.Errorf("the error %d was found %d times", e, found[e])
		}
	}
}

func TestTypeOfMade(t *testing.T) { // P4.3 against a second reading
	for seed := range uint64(2000) {
		p, r := made(seed)
		info := takesProg(t, p)
		for range r.IntN(4) {
			p = sample.BentExpr(r.IntN, p)
		}
		for i, q := range p.Procs {
			all := entries(q)
			for m, x := range all {
				for _, y := range x.s.E {
					got, e := check.TypeOf(y, info.Vars[i], m+1)
					want, wantE := typeOf(y, looks(q, all, x))
					if got != want || e != wantE {
						t.Fatalf("TypeOf(%v) at %d = %d, %d; want %d, %d", y, m+1, got, e, want, wantE)
					}
				}
			}
		}
	}
}

func TestStmtMade(t *testing.T) { // P4.4 against a second reading
	for seed := range uint64(500) {
		p, _ := made(seed)
		for _, q := range p.Procs {
			all := entries(q)
			if n := check.Count(q); n != len(all) {
				t.Fatalf("Count = %d; want %d", n, len(all))
			}
			for m := -1; m <= len(all)+2; m++ {
				s, ok := check.Stmt(q, m)
				inside := m >= 1 && m <= len(all)
				if ok != inside || inside && !reflect.DeepEqual(sample.CopyStmts(s), sample.CopyStmts(all[m-1].s)) {
					t.Fatalf("Stmt(%d) = %v, %v", m, s, ok)
				}
			}
		}
	}
}

// renamed is a procedure with a name of a variable changed throughout.
func renamed(q api.Proc, from, to string) api.Proc {
	change := func(name *string) {
		if *name == from {
			*name = to
		}
	}
	p := sample.Changed(api.Prog{Procs: []api.Proc{q}}, func(s api.Stmt) api.Stmt {
		change(&s.Name)
		return s
	}, func(x api.Expr) api.Expr {
		change(&x.Name)
		return x
	})
	for i := range p.Procs[0].Params {
		change(&p.Procs[0].Params[i].Name)
	}
	return p.Procs[0]
}

func TestRenamed(t *testing.T) { // P4.5
	for seed := range uint64(500) {
		p, r := made(seed)
		info := takesProg(t, p)
		i := r.IntN(len(p.Procs))
		if len(info.Vars[i]) == 0 {
			continue
		}
		k := r.IntN(len(info.Vars[i]))
		q := sample.Copy(p)
		q.Procs[i] = renamed(p.Procs[i], info.Vars[i][k].Name, "elsewhere")
		info.Vars[i][k].Name = "elsewhere"
		if got := takesProg(t, q); !same(got, info) {
			t.Fatalf("%v; want %v", got, info)
		}
	}
}

func TestOneMore(t *testing.T) { // P4.6
	for seed := range uint64(500) {
		p, _ := made(seed)
		info := takesProg(t, p)
		more := api.Proc{Name: "more", Params: []api.Param{{Name: "a", Type: api.Bool}}, Type: api.Bool, Body: []api.Stmt{{Kind: api.SReturn, E: list(named("a"))}}}
		q := sample.Copy(p)
		q.Procs = append(q.Procs, more)
		info.Vars = append(info.Vars, []api.Var{{Name: "a", Type: api.Bool, To: 2}})
		info.Marks = append(info.Marks, 1)
		if got := takesProg(t, q); !same(got, info) {
			t.Fatalf("%v; want %v", got, info)
		}
	}
}

func TestUnlike(t *testing.T) { // P4.7
	for seed := range uint64(500) {
		p, _ := made(seed)
		info := takesProg(t, p)
		for i, q := range p.Procs {
			for m := 0; m <= info.Marks[i]+1; m++ {
				for k, v := range info.Vars[i] {
					in := v.From <= m && m <= v.To
					if found := check.Find(info.Vars[i], v.Name, m); in && found != k || !in && found != -1 {
						t.Fatalf("%q at %d: %d", v.Name, m, found)
					}
					if k < len(q.Params) && !in {
						t.Fatalf("%q is not in scope at %d", v.Name, m)
					}
				}
			}
		}
	}
}

// spoil writes over all that statements have, and behind their ends.
func spoil(l []api.Stmt) {
	for i := range l {
		spoilExprs(l[i].E)
		spoil(l[i].Body)
		spoil(l[i].Else)
		l[i] = api.Stmt{Kind: 77}
	}
	_ = append(l, api.Stmt{Kind: 78})
}

func spoilExprs(l []api.Expr) {
	for i := range l {
		spoilExprs(l[i].L)
		l[i] = api.Expr{Kind: 77}
	}
	_ = append(l, api.Expr{Kind: 78})
}

func TestStmtIsOwn(t *testing.T) { // what is answered is new memory
	p := parsed(t, "proc main(){var a[2];if(a[1]<2){a[a[0]]=1+2*3;while(!(a[0]==1)){print -1;}}else{return;}}")
	before := sample.Copy(p)
	for m := 1; m <= 6; m++ {
		s, _ := check.Stmt(p.Procs[0], m)
		spoil([]api.Stmt{s})
		if !reflect.DeepEqual(before, sample.Copy(p)) {
			t.Fatalf("the statement at %d is the program's", m)
		}
	}
}

func TestInfoIsOwn(t *testing.T) { // no two lists share memory
	p := parsed(t, "proc main(){var a;} proc f(int b){var c;} proc g(bool d){}")
	info := takesProg(t, p)
	want := takesProg(t, p)
	for i := range info.Vars {
		other, _, _ := check.Check(p)
		_ = append(other.Vars[i], api.Var{Name: "x"}, api.Var{Name: "x"})
		for k := range other.Vars[i] {
			other.Vars[i][k] = api.Var{}
		}
		other.Vars[i] = info.Vars[i]
		if !same(other, want) {
			t.Fatalf("the variables of %d are shared", i)
		}
	}
}

// deepStmt and deepExpr are nested in one another, as far as the document's bound goes.
const deepest = 1 << 16

func deepStmt() []api.Stmt {
	l := []api.Stmt{{Kind: api.SPrint, E: list(whole(1))}}
	for i := range deepest - 2 {
		switch i % 3 {
		case 0:
			l = []api.Stmt{{Kind: api.SIf, E: list(truth(1)), Body: l}}
		case 1:
			l = []api.Stmt{{Kind: api.SIf, E: list(truth(1)), Else: l}}
		case 2:
			l = []api.Stmt{{Kind: api.SWhile, E: list(truth(1)), Body: l}}
		}
	}
	return l
}

func deepExpr(x api.Expr) api.Expr {
	for range deepest/2 - 1 {
		x = sign("-", two(whole(1), "+", x))
	}
	return x
}

func TestDeep(t *testing.T) { // P1
	p := api.Prog{Procs: []api.Proc{{Name: "main", Body: deepStmt()}}}
	info := takesProg(t, p)
	if info.Marks[0] != deepest-1 || check.Count(p.Procs[0]) != deepest-1 {
		t.Errorf("%v", info.Marks)
	}
	if s, ok := check.Stmt(p.Procs[0], deepest-1); s.Kind != api.SPrint || !ok {
		t.Errorf("Stmt = %d, %v", s.Kind, ok)
	}
	if s, ok := check.Stmt(p.Procs[0], 1); len(s.Body)+len(s.Else) != 1 || !ok {
		t.Errorf("Stmt = %d, %v", s.Kind, ok)
	}
	if _, ok := check.Stmt(p.Procs[0], deepest); ok {
		t.Error("a statement behind the last one")
	}
	if got, e := check.TypeOf(deepExpr(whole(1)), nil, 0); got != api.Int || e != api.OK {
		t.Errorf("TypeOf = %d, %d", got, e)
	}
	if got, e := check.TypeOf(deepExpr(named("x")), nil, 0); got != 0 || e != api.ErrName {
		t.Errorf("TypeOf = %d, %d", got, e)
	}
	p.Procs[0].Body = append(p.Procs[0].Body, api.Stmt{Kind: api.SPrint, E: list(deepExpr(truth(1)))})
	refusesProg(t, p, 0, deepest, api.ErrType)
	p.Procs[0].Type, p.Procs[0].Name = api.Int, "f"
	p.Procs[0].Body = deepStmt()
	p.Procs = append(p.Procs, api.Proc{Name: "main"})
	refusesProg(t, p, 0, deepest, api.ErrReturn)
}

func TestOddArguments(t *testing.T) { // P1
	odd := []api.Var{{Name: "x", Type: 9, Size: -4, From: math.MinInt, To: math.MaxInt}, {Name: "x", Type: -1, Size: math.MaxInt, From: math.MaxInt, To: math.MinInt}}
	for _, mark := range []int{math.MinInt, -1, 0, 1, math.MaxInt} {
		if got, e := check.TypeOf(named("x"), odd, mark); got != 9 || e != api.OK {
			t.Errorf("TypeOf at %d = %d, %d", mark, got, e)
		}
		if got, e := check.TypeOf(two(named("x"), "==", named("x")), odd, mark); got != api.Bool || e != api.OK {
			t.Errorf("TypeOf at %d = %d, %d", mark, got, e)
		}
		if got, e := check.TypeOf(named("x"), nil, mark); got != 0 || e != api.ErrName {
			t.Errorf("TypeOf at %d = %d, %d", mark, got, e)
		}
	}
}

// FuzzCheck holds Check against the second reading on programs that bytes pick.
func FuzzCheck(f *testing.F) {
	f.Add([]byte("proc main"), uint64(0))
	f.Fuzz(func(t *testing.T, picks []byte, seed uint64) {
		p := sample.Prog(func(n int) int {
			if len(picks) == 0 {
				return 0
			}
			k := int(picks[0]) % n
			picks = picks[1:]
			return k
		})
		r := rand.New(rand.NewPCG(seed, 5))
		for range seed % 4 {
			p = sample.Bent(r.IntN, p)
		}
		info, at, e := check.Check(p)
		wantInfo, wantAt, wantE := checks(p)
		if !same(info, wantInfo) || at != wantAt || e != wantE {
			t.Fatalf("Check(%v) = %v, %v, %d; want %v, %v, %d", p, info, at, e, wantInfo, wantAt, wantE)
		}
	})
}
