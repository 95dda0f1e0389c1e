package sample_test

import (
	"math/rand/v2"
	"reflect"
	"testing"

	"parallax/api"
	"parallax/check"
	"parallax/sample"
	"parallax/syntax"
)

// seen counts the kinds of statements and expressions of a program.
type seen struct{ stmts, exprs map[int]int }

func (s seen) block(l []api.Stmt) {
	for _, x := range l {
		s.stmts[x.Kind]++
		s.parts(x.E)
		s.block(x.Body)
		s.block(x.Else)
	}
}

func (s seen) parts(l []api.Expr) {
	for _, x := range l {
		s.exprs[x.Kind]++
		s.parts(x.L)
	}
}

func TestProg(t *testing.T) {
	s := seen{map[int]int{}, map[int]int{}}
	for seed := range uint64(2000) {
		p := sample.Prog(rand.New(rand.NewPCG(seed, 1)).IntN)
		if _, at, e := check.Check(p); e != api.OK {
			t.Fatalf("%v is wrong at %v: %d", p, at, e)
		}
		text, e := syntax.Print(p)
		if _, _, read := syntax.Parse(text); e != api.OK || read != api.OK {
			t.Fatalf("%v is not printed, or not read: %d, %d", p, e, read)
		}
		if again := sample.Prog(rand.New(rand.NewPCG(seed, 1)).IntN); !reflect.DeepEqual(p, again) {
			t.Fatalf("%v, and then %v", p, again)
		}
		for _, q := range p.Procs {
			s.block(q.Body)
		}
	}
	for kind := api.SVar; kind <= api.SAssert; kind++ {
		if s.stmts[kind] < 500 {
			t.Errorf("statements of kind %d: %d", kind, s.stmts[kind])
		}
	}
	for kind := api.EInt; kind <= api.EBin; kind++ {
		if s.exprs[kind] < 500 {
			t.Errorf("expressions of kind %d: %d", kind, s.exprs[kind])
		}
	}
}

func TestBent(t *testing.T) {
	wrong := 0
	for seed := range uint64(2000) {
		r := rand.New(rand.NewPCG(seed, 2))
		p := sample.Prog(r.IntN)
		before := sample.Copy(p)
		q := sample.Bent(r.IntN, sample.BentExpr(r.IntN, p))
		if _, _, e := check.Check(q); e != api.OK {
			wrong++
		}
		if !reflect.DeepEqual(sample.Copy(p), before) {
			t.Fatalf("%v was changed", before)
		}
	}
	if wrong < 1000 {
		t.Errorf("%d are wrong", wrong)
	}
	if q := sample.Bent(func(int) int { return 0 }, api.Prog{}); len(q.Procs) > 0 {
		t.Errorf("%v of nothing", q)
	}
}
