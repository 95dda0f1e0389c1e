package fold_test

import (
	"math/rand/v2"
	"reflect"
	"strings"
	"testing"

	"parallax/api"
	"parallax/check"
	"parallax/fold"
	"parallax/sample"
	"parallax/syntax"
)

// maker makes up expressions, most of them of no type, some built otherwise.
type maker struct{ *rand.Rand }

func oneOf[T any](m maker, l ...T) T { return l[m.IntN(len(l))] }

func (m maker) number() int64 {
	return oneOf[int64](m, 0, 0, 0, 1, 1, 1, 2, 3, 5, -1, -2, most, least, most-1, least+1, 1<<32, -1<<31)
}

func (m maker) name() string { return oneOf(m, "x", "y", "z", "a", "e", "none") }

func (m maker) sign() string {
	return oneOf(m, "+", "-", "*", "/", "%", "==", "!=", "<", "<=", "&&", "||")
}

func (m maker) leaf() api.Expr {
	switch m.IntN(8) {
	case 0, 1:
		return whole(m.number())
	case 2:
		return whole(int64(m.IntN(2)))
	case 3, 4:
		return truth(int64(m.IntN(2)))
	}
	return named(m.name())
}

// expr makes an expression, with odd of a hundred parts built otherwise.
func (m maker) expr(size, odd int) api.Expr {
	if m.IntN(100) < odd {
		return m.odd(size, odd)
	}
	if size == 0 || m.IntN(6) == 0 {
		return m.leaf()
	}
	switch m.IntN(10) {
	case 0:
		return index(m.name(), m.expr(size-1, odd))
	case 1, 2, 3:
		return sign(oneOf(m, "-", "!"), m.expr(size-1, odd))
	}
	return two(m.expr(size-1, odd), m.sign(), m.expr(size-1, odd))
}

func (m maker) odd(size, odd int) api.Expr {
	x := api.Expr{Kind: m.IntN(8), Num: m.number(), Name: oneOf(m, m.name(), m.sign(), "!", "", "+ -")}
	if size > 0 {
		for range m.IntN(4) {
			x.L = append(x.L, m.expr(size-1, odd))
		}
	}
	return x
}

func (m maker) env() fold.Env {
	var env fold.Env
	for range m.IntN(7) {
		env.Names = append(env.Names, m.name())
	}
	for range m.IntN(7) {
		env.Vals = append(env.Vals, m.number())
	}
	for range m.IntN(7) {
		var l []int64
		if m.IntN(2) == 0 {
			l = []int64{}
		}
		for range m.IntN(4) {
			l = append(l, m.number())
		}
		env.Lists = append(env.Lists, l)
	}
	return env
}

func madeExpr(seed uint64) (maker, api.Expr) {
	m := maker{rand.New(rand.NewPCG(seed, 5))}
	return m, m.expr(m.IntN(6), oneOf(m, 0, 0, 3, 20))
}

// asks holds what is told of an expression against the second reading, and against what must follow.
func asks(t *testing.T, m maker, x api.Expr) (traps int) {
	t.Helper()
	before := even(x)
	small := fold.Expr(x)
	if want := folded(t, x); !equal(small, want) {
		t.Fatalf("Expr(%s) = %s; want %s", shape(x), shape(small), shape(want))
	}
	if again := fold.Expr(small); !equal(again, small) { // P5.5
		t.Fatalf("Expr(%s) = %s, and then %s", shape(x), shape(small), shape(again))
	}
	n, ok := fold.Const(x)
	if wantN, want := constant(x); n != wantN || ok != want {
		t.Fatalf("Const(%v) = %d, %v; want %d, %v", x, n, ok, wantN, want)
	}
	for range 5 {
		env := m.env()
		n, trap := fold.Eval(x, env)
		if wantN, want := reckon(x, env); n != wantN || trap != want {
			t.Fatalf("Eval(%s %v, %v) = %d, %d; want %d, %d", shape(x), x, env, n, trap, wantN, want)
		}
		if wantN, want := fold.Eval(small, env); n != wantN || trap != want { // P5.4
			t.Fatalf("at %v %s is worth %d, %d; folded, %s, %d, %d", env, shape(x), n, trap, shape(small), wantN, want)
		}
		if trap != 0 {
			traps++
		}
		if trap != 0 && !fold.Traps(x) { // P5.6
			t.Fatalf("%s may not trap, but does at %v", shape(x), env)
		}
	}
	if !reflect.DeepEqual(even(x), before) {
		t.Fatalf("%v was changed", before)
	}
	return traps
}

func TestMadeExprs(t *testing.T) { // P5.1 to P5.6
	traps, smaller, may := 0, 0, 0
	for seed := range uint64(20000) {
		m, x := madeExpr(seed)
		traps += asks(t, m, x)
		if !equal(x, fold.Expr(x)) {
			smaller++
		}
		if fold.Traps(x) {
			may++
		}
	}
	if traps < 2000 || smaller < 4000 || may < 4000 || may > 16000 {
		t.Errorf("%d traps, %d are folded, %d may trap", traps, smaller, may)
	}
}

func TestMadeTraps(t *testing.T) { // P5.2
	for seed := range uint64(5000) {
		_, x := madeExpr(seed)
		var has func(x api.Expr) bool
		has = func(x api.Expr) bool {
			if x.Kind == api.EIndex {
				return true
			}
			if x.Kind == api.EBin && (x.Name == "/" || x.Name == "%") && !(len(x.L) == 2 && x.L[1].Kind == api.EInt && x.L[1].Num > 0 && len(x.L[1].L) == 0) {
				return true
			}
			for _, y := range x.L {
				if has(y) {
					return true
				}
			}
			return false
		}
		if got := fold.Traps(x); got != has(x) {
			t.Fatalf("Traps(%v) = %v", x, got)
		}
	}
}

// spoil writes over all that an expression holds, and behind the ends of its lists.
func spoil(x *api.Expr) {
	_ = append(x.L, api.Expr{Kind: 99}, api.Expr{Kind: 98})
	for i := range x.L {
		spoil(&x.L[i])
		x.L[i] = api.Expr{Kind: 97}
	}
}

func TestExprShares(t *testing.T) { // the answer is new memory
	for seed := range uint64(3000) {
		_, x := madeExpr(seed)
		before := even(x)
		small := fold.Expr(x)
		want := even(small)
		spoil(&small)
		if !reflect.DeepEqual(even(x), before) {
			t.Fatalf("Expr(%v) shares memory with it", before)
		}
		small = fold.Expr(x)
		spoil(&x)
		if !reflect.DeepEqual(even(small), want) {
			t.Fatalf("Expr(%v) keeps it", before)
		}
		p := api.Prog{Procs: []api.Proc{{Params: []api.Param{{Name: "a"}}, Body: []api.Stmt{{Kind: api.SPrint, E: list(even(before))}}}}}
		q := fold.Prog(p)
		q.Procs[0].Params[0].Name, q.Procs[0].Body[0].Name = "b", "c"
		spoil(&q.Procs[0].Body[0].E[0])
		if p.Procs[0].Params[0].Name != "a" || p.Procs[0].Body[0].Name != "" || !reflect.DeepEqual(p.Procs[0].Body[0].E[0], before) {
			t.Fatalf("Prog of %v shares memory with it", before)
		}
	}
}

// madeProg is a right program with an input, the same ones for a seed in each run.
func madeProg(seed uint64) (api.Prog, []int64, *rand.Rand) {
	r := rand.New(rand.NewPCG(seed, 6))
	p := sample.Prog(r.IntN)
	var input []int64
	for range r.IntN(6) {
		input = append(input, int64(r.IntN(9)-3))
	}
	return p, input, r
}

func sameHistory(a, b fold.History) bool {
	return shown(a) == shown(b) && events(a) == events(b)
}

// run is the history of a right program.
func run(t *testing.T, p api.Prog, input []int64, fuel int) fold.History {
	t.Helper()
	h, e := fold.Run(p, input, fuel)
	if e != api.OK {
		text, _ := syntax.Print(p)
		t.Fatalf("Run(%q, %v, %d): %d", text, input, fuel, e)
	}
	return h
}

// ending is how a run ends.
func ending(h fold.History) string {
	all := strings.Split(events(h), ", ")
	return all[len(all)-1]
}

func TestMadeProgs(t *testing.T) { // P5.8 against a second reading, P5.10
	found := map[string]int{}
	for seed := range uint64(4000) {
		p, input, r := madeProg(seed)
		fuel := r.IntN(200)
		if seed%20 == 0 {
			fuel = 1500
		}
		h := run(t, p, input, fuel)
		if want := history(p, input, fuel); !sameHistory(h, want) {
			text, _ := syntax.Print(p)
			t.Fatalf("Run(%q, %v, %d):\n%s\n%s\nwant\n%s\n%s", text, input, fuel, shown(h), events(h), shown(want), events(want))
		}
		if len(h.Pos) > fuel || len(h.Events) == 0 {
			t.Fatalf("fuel %d: %d ticks, %d events", fuel, len(h.Pos), len(h.Events))
		}
		for i, e := range h.Events {
			if last := i == len(h.Events)-1; last != (e.Kind >= api.EvEnd) {
				t.Fatalf("the event %d of %d is %v", i, len(h.Events), e)
			}
		}
		found[ending(h)]++
	}
	for _, s := range []string{"end", "fuel", "trap 1", "trap 2", "trap 3", "trap 4", "trap 5"} {
		if found[s] < 10 {
			t.Errorf("runs that end by %s: %d", s, found[s])
		}
	}
}

// starts tells whether a history begins as another one does, but for that one's last event.
func starts(h, as fold.History) bool {
	if len(h.Pos) < len(as.Pos) || len(h.Events) < len(as.Events) {
		return false
	}
	cut := fold.History{Pos: h.Pos[:len(as.Pos)], Events: h.Events[:len(as.Events)-1]}
	return sameHistory(cut, fold.History{Pos: as.Pos, Events: as.Events[:len(as.Events)-1]})
}

func TestMoreFuelAndInput(t *testing.T) { // P5.9
	grown, fed := 0, 0
	for seed := range uint64(1500) {
		p, input, r := madeProg(seed)
		fuel := r.IntN(150)
		h := run(t, p, input, fuel)
		text, _ := syntax.Print(p)
		more := run(t, p, input, fuel+1+r.IntN(100))
		if ending(h) == "fuel" {
			grown++
		} else if !sameHistory(h, more) {
			t.Fatalf("%q: more fuel changes a run that ends by %s", text, ending(h))
		}
		if !starts(more, h) {
			t.Fatalf("%q: more fuel changes how the run begins", text)
		}
		more = run(t, p, append(append([]int64(nil), input...), 3, 1, -2), fuel)
		if ending(h) == "trap 5" {
			fed++
		} else if !sameHistory(h, more) {
			t.Fatalf("%q: more input changes a run that ends by %s", text, ending(h))
		}
		if !starts(more, h) {
			t.Fatalf("%q: more input changes how the run begins", text)
		}
	}
	if grown < 100 || fed < 50 {
		t.Errorf("%d runs had too little fuel, %d too little input", grown, fed)
	}
}

func TestFoldedProgs(t *testing.T) { // P5.7
	changed := 0
	for seed := range uint64(3000) {
		p, input, _ := madeProg(seed)
		small := fold.Prog(p)
		text, _ := syntax.Print(p)
		short, e := syntax.Print(small)
		if e != api.OK {
			t.Fatalf("%q, folded, is not printed: %d", text, e)
		}
		info, _, _ := check.Check(p)
		again, at, e := check.Check(small)
		if e != api.OK || !reflect.DeepEqual(info, again) {
			t.Fatalf("%q, folded, is %q: %d at %v", text, short, e, at)
		}
		if h := run(t, p, input, 200); !sameHistory(h, run(t, small, input, 200)) {
			t.Fatalf("%q does other things than %q", short, text)
		}
		if text != short {
			changed++
		}
	}
	if changed < 1000 {
		t.Errorf("%d programs are folded to others", changed)
	}
}

// tower is an expression with so many signs ahead of one another.
func tower(n int, s string, x api.Expr) api.Expr {
	for range n {
		x = sign(s, x)
	}
	return x
}

func TestDeep(t *testing.T) { // P1: as many parts in one another as are promised
	const deep = 1<<16 - 2
	x := tower(deep, "-", named("x"))
	worthAsks(t, x, some(), 7, 0)
	if got := fold.Expr(x); !equal(got, named("x")) {
		t.Error("an even number of - is not folded away")
	}
	if fold.Traps(x) || !fold.Traps(tower(deep, "!", index("a", whole(0)))) {
		t.Error("Traps of deep expressions")
	}
	sum, left, right := whole(1), named("y"), named("y")
	for range deep {
		sum = two(sum, "+", whole(1))
		left = two(left, "+", whole(0))
		right = two(whole(1), "*", right)
	}
	worthAsks(t, sum, some(), deep+1, 0)
	worthAsks(t, right, some(), -3, 0)
	if got := fold.Expr(sum); !equal(got, whole(deep+1)) {
		t.Error("a long sum is not folded")
	}
	if !equal(fold.Expr(left), named("y")) || !equal(fold.Expr(right), named("y")) {
		t.Error("what changes nothing is not folded away")
	}
	odd := api.Expr{Kind: 99}
	for range deep {
		odd = api.Expr{Kind: 99, L: list(odd)}
	}
	worthAsks(t, odd, some(), 0, 0)
	if !equal(fold.Expr(odd), odd) {
		t.Error("a deep expression of no kind is folded")
	}
	s := api.Stmt{Kind: api.SPrint, E: list(tower(9, "-", whole(1)))}
	for range 1<<16 - 20 {
		s = api.Stmt{Kind: api.SIf, E: list(truth(1)), Body: []api.Stmt{s}}
	}
	p := fold.Prog(api.Prog{Procs: []api.Proc{{Name: "main", Body: []api.Stmt{s}}}})
	if h, e := fold.Run(p, nil, 4096); e != api.OK || len(h.Pos) != 4096 || events(h) != "fuel" {
		t.Errorf("Run of deep statements: %d ticks, %s, %d", len(h.Pos), events(h), e)
	}
}

func FuzzFold(f *testing.F) {
	for seed := range uint64(20) {
		f.Add(seed, seed)
	}
	f.Fuzz(func(t *testing.T, a, b uint64) {
		m := maker{rand.New(rand.NewPCG(a, b))}
		asks(t, m, m.expr(m.IntN(7), oneOf(m, 0, 3, 20, 50)))
		p, input, _ := madeProg(a ^ b)
		if h := run(t, p, input, 300); !sameHistory(h, history(p, input, 300)) || !sameHistory(h, run(t, fold.Prog(p), input, 300)) {
			t.Fatalf("Run(%v, %v)", p, input)
		}
	})
}
