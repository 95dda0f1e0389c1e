package sample_test

import (
	"math/rand/v2"
	"reflect"
	"testing"

	"parallax/api"
	"parallax/check"
	"parallax/code"
	"parallax/sample"
	"parallax/syntax"
)

// seen counts the kinds of statements and expressions of a program.
type seen struct{ stmts, exprs map[int]int }

func (s seen) block(l []api.Stmt) {
	for _, x := range l {
		s.stmts[x.Kind]++
		s.parts(x.E)
		s.block(x.Body)
		s.block(x.Else)
	}
}

func (s seen) parts(l []api.Expr) {
	for _, x := range l {
		s.exprs[x.Kind]++
		s.parts(x.L)
	}
}

func TestProg(t *testing.T) {
	s := seen{map[int]int{}, map[int]int{}}
	for seed := range uint64(2000) {
		p := sample.Prog(rand.New(rand.NewPCG(seed, 1)).IntN)
		if _, at, e := check.Check(p); e != api.OK {
			t.Fatalf("%v is wrong at %v: %d", p, at, e)
		}
		text, e := syntax.Print(p)
		if _, _, read := syntax.Parse(text); e != api.OK || read != api.OK {
			t.Fatalf("%v is not printed, or not read: %d, %d", p, e, read)
		}
		if again := sample.Prog(rand.New(rand.NewPCG(seed, 1)).IntN); !reflect.DeepEqual(p, again) {
			t.Fatalf("%v, and then %v", p, again)
		}
		for _, q := range p.Procs {
			s.block(q.Body)
		}
	}
	for kind := api.SVar; kind <= api.SAssert; kind++ {
		if s.stmts[kind] < 500 {
			t.Errorf("statements of kind %d: %d", kind, s.stmts[kind])
		}
	}
	for kind := api.EInt; kind <= api.EBin; kind++ {
		if s.exprs[kind] < 500 {
			t.Errorf("expressions of kind %d: %d", kind, s.exprs[kind])
		}
	}
}

func TestBent(t *testing.T) {
	wrong := 0
	for seed := range uint64(2000) {
		r := rand.New(rand.NewPCG(seed, 2))
		p := sample.Prog(r.IntN)
		before := sample.Copy(p)
		q := sample.Bent(r.IntN, sample.BentExpr(r.IntN, p))
		if _, _, e := check.Check(q); e != api.OK {
			wrong++
		}
		if !reflect.DeepEqual(sample.Copy(p), before) {
			t.Fatalf("%v was changed", before)
		}
	}
	if wrong < 1000 {
		t.Errorf("%d are wrong", wrong)
	}
	if q := sample.Bent(func(int) int { return 0 }, api.Prog{}); len(q.Procs) > 0 {
		t.Errorf("%v of nothing", q)
	}
}

func TestCodes(t *testing.T) {
	ops := map[int]int{}
	for seed := range uint64(2000) {
		l, main := sample.Codes(rand.New(rand.NewPCG(seed, 3)).IntN)
		if !code.Sound(l, main) {
			t.Fatalf("seed %d: %v, %d are not sound", seed, l, main)
		}
		for k := range l {
			heights, _ := code.Heights(l, k)
			for place, i := range l[k].Ins {
				if heights[place] >= 0 {
					ops[i.Op]++
				}
			}
		}
		if again, at := sample.Codes(rand.New(rand.NewPCG(seed, 3)).IntN); !reflect.DeepEqual(l, again) || at != main {
			t.Fatalf("%v, and then %v", l, again)
		}
	}
	for op := api.OpPush; op <= api.MaxOp; op++ {
		if ops[op] < 500 {
			t.Errorf("instructions of the operation %d: %d", op, ops[op])
		}
	}
}

func TestBentCodes(t *testing.T) {
	unsound := 0
	for seed := range uint64(2000) {
		r := rand.New(rand.NewPCG(seed, 4))
		l, main := sample.Codes(r.IntN)
		before := sample.CopyCodes(l)
		if !code.Sound(sample.BentCodes(r.IntN, l), main) {
			unsound++
		}
		if !reflect.DeepEqual(l, before) {
			t.Fatalf("%v was changed", before)
		}
	}
	if unsound < 800 || unsound > 1900 {
		t.Errorf("%d are not sound", unsound)
	}
	if l := sample.BentCodes(func(int) int { return 0 }, nil); len(l) > 0 {
		t.Errorf("%v of nothing", l)
	}
}
