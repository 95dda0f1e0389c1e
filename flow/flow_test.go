package flow_test

import (
	"math/rand/v2"
	"reflect"
	"strconv"
	"strings"
	"testing"

	"parallax/api"
	"parallax/check"
	"parallax/flow"
	"parallax/sample"
	"parallax/syntax"
)

// steps asks where a body's marks lead, from the mark 0 on: to yes/no, or to one.
func steps(t *testing.T, body, want string) {
	t.Helper()
	p, _, e := syntax.Parse("proc main(){" + body + "}")
	if e != api.OK {
		t.Fatalf("Parse(%q): %d", body, e)
	}
	var got []string
	for _, s := range flow.Steps(p.Procs[0]) {
		x := strconv.Itoa(s.Yes)
		if s.Yes != s.No {
			x += "/" + strconv.Itoa(s.No)
		}
		got = append(got, x)
	}
	if strings.Join(got, " ") != want {
		t.Errorf("Steps(%q) = %v; want %s", body, got, want)
	}
}

func TestSteps(t *testing.T) {
	steps(t, "", "1 -1")
	steps(t, "print 1;", "1 2 -1")
	steps(t, "if(true){print 1;}else{print 2;print 3;}print 4;", "1 2/3 5 4 5 6 -1")
	steps(t, "if(true){}else{print 2;}print 4;", "1 3/2 3 4 -1")
	steps(t, "if(true){}print 4;", "1 2 3 -1")
	steps(t, "while(true){print 1;if(true){}else{print 2;}}", "1 2/5 3 1/4 1 -1")
	steps(t, "while(true){}", "1 1/2 -1")
	steps(t, "if(true){if(true){while(false){return;print 1;}}}print 2;", "1 2/6 3/6 4/6 7 3 7 -1")
}

func TestNext(t *testing.T) {
	for _, x := range []struct {
		yes, no int
		want    []int
	}{{3, 3, []int{3}}, {3, 5, []int{3, 5}}, {5, 3, []int{3, 5}}, {flow.Nowhere, flow.Nowhere, nil}} {
		if got := (flow.Step{Yes: x.yes, No: x.no}).Next(); !reflect.DeepEqual(got, x.want) {
			t.Errorf("%d, %d: %v; want %v", x.yes, x.no, got, x.want)
		}
	}
}

// spoil writes over expressions and their parts.
func spoil(l []api.Expr) {
	for i := range l {
		spoil(l[i].L)
		l[i] = api.Expr{Kind: 77}
	}
}

func TestStatements(t *testing.T) { // at each mark stands the one that check tells, whatever is wrong with it
	for seed := range uint64(1000) {
		r := rand.New(rand.NewPCG(seed, 7))
		p := sample.Prog(r.IntN)
		for range r.IntN(4) {
			p = sample.Bent(r.IntN, p)
		}
		before := sample.Copy(p)
		for _, q := range p.Procs {
			l := flow.Steps(q)
			if len(l) != check.Count(q)+2 {
				t.Fatalf("%d marks; want %d", len(l), check.Count(q)+2)
			}
			for mark, s := range l {
				want, _ := check.Stmt(q, mark)
				want.Body, want.Else = nil, nil
				if !reflect.DeepEqual(sample.CopyStmts(s.Stmt), sample.CopyStmts(want)) {
					t.Fatalf("at %d stands %v; want %v", mark, s.Stmt, want)
				}
				spoil(s.E)
				for _, next := range s.Next() {
					if next < 1 || next >= len(l) {
						t.Fatalf("behind %d comes %d of %d", mark, next, len(l))
					}
				}
			}
		}
		if !reflect.DeepEqual(sample.Copy(p), before) {
			t.Fatalf("%v shares memory with its steps", before)
		}
	}
}
