package gen_test

import (
	"math/rand/v2"
	"reflect"
	"slices"
	"testing"

	"parallax/api"
	"parallax/check"
	"parallax/fold"
	"parallax/gen"
	"parallax/live"
	"parallax/sample"
	"parallax/syntax"
	"parallax/vm"
)

// setting is a program, what is kept of it, and what it is run with.
type setting struct {
	api.Prog
	info  check.Info
	keep  []gen.Keep
	input []int64
	fuel  int
}

// made is a setting of a right program.
func made(t *testing.T, r *rand.Rand) setting {
	t.Helper()
	s := setting{Prog: sample.Prog(r.IntN), fuel: 10 + r.IntN(300)}
	var at check.Place
	var e api.Errno
	s.info, at, e = check.Check(s.Prog)
	if e != api.OK {
		t.Fatalf("%v is wrong at %v: %d", s.Prog, at, e)
	}
	for range r.IntN(8) {
		s.input = append(s.input, int64(r.IntN(9)-2))
	}
	s.keep = s.some(r, r.IntN(4))
	return s
}

// some are, of four of a program's variables, about so many, and a name of none.
func (s setting) some(r *rand.Rand, many int) []gen.Keep {
	l := []gen.Keep{{Proc: "f", Var: "nope"}}
	for i, q := range s.Procs {
		for _, v := range s.info.Vars[i] {
			if r.IntN(4) < many {
				l = append(l, gen.Keep{Proc: q.Name, Var: v.Name})
			}
		}
	}
	return l
}

// text is a setting's, for what is told of a fault.
func (s setting) text() string {
	x, _ := syntax.Print(s.Prog)
	return x
}

// keeps tells whether a variable is kept.
func (s setting) keeps(proc, v int) bool {
	return slices.Contains(s.keep, gen.Keep{Proc: s.Procs[proc].Name, Var: s.info.Vars[proc][v].Name})
}

// table is which variables of a procedure can be told.
func (s setting) table(proc int, plain bool) live.Table {
	var names []string
	for v, x := range s.info.Vars[proc] {
		if s.keeps(proc, v) {
			names = append(names, x.Name)
		}
	}
	return live.Make(s.Procs[proc], s.info.Vars[proc], names, plain)
}

// counts are how much was told, and not told, of variables in scope, of answers, and of numbers other than 0.
type counts struct{ told, gone, answers, others int }

// watcher holds a machine against what the program does, position by position.
type watcher struct {
	*testing.T
	setting
	gen.Build
	tables []live.Table
	m      *vm.Machine
	counts
}

// asks holds a build of a setting against the history of its program, and tells the last event.
func (s setting) asks(t *testing.T, plain bool, c *counts) api.Event {
	t.Helper()
	h, e := fold.Run(s.Prog, s.input, s.fuel)
	if e != api.OK {
		t.Fatalf("%s: Run: %d", s.text(), e)
	}
	before := sample.Copy(s.Prog)
	w := watcher{T: t, setting: s, Build: build(t, s.Prog, s.keep, plain), counts: *c}
	w.m = start(t, w.Build, s.input, s.fuel)
	for i := range s.Procs {
		w.tables = append(w.tables, s.table(i, plain))
	}
	if !reflect.DeepEqual(w.Tables, w.tables) || !reflect.DeepEqual(sample.Copy(s.Prog), before) || !reflect.DeepEqual(sample.Copy(w.Build.Prog), before) {
		t.Fatalf("%s: the build %v", s.text(), w.Build)
	}
	w.nothing()
	for k, pos := range h.Pos {
		w.step(k, pos)
		if !slices.Equal(w.m.Events(), h.Events[:pos.Count]) {
			w.Fatalf("%s\nplain %v, at %d: %s\n%s", s.text(), plain, k, seen(w.m.Events()), printed(w.Build))
		}
		w.answers(h, k)
	}
	if w.m.Step() || !slices.Equal(w.m.Events(), h.Events) {
		w.Fatalf("%s\nplain %v, in the end: %s; want %s\n%s", s.text(), plain, seen(w.m.Events()), seen(h.Events), printed(w.Build))
	}
	w.nothing()
	*c = w.counts
	return h.Events[len(h.Events)-1]
}

// nothing asks that nothing is told, where there is no tick.
func (w *watcher) nothing() {
	for k := range w.m.Frames() {
		proc, _, _, _ := w.m.Frame(k)
		for v := range w.info.Vars[proc] {
			if l, e := gen.Value(w.Build, w.m, k, v); e != api.ErrGone || len(l) > 0 {
				w.Fatalf("Value at no tick: %v, %d", l, e)
			}
		}
		if n, e := gen.Answer(w.Build, w.m, k); n != 0 || e != api.ErrGone {
			w.Fatalf("Answer at no tick: %d, %d", n, e)
		}
	}
}

// step asks for the next tick, and for all that is told there.
func (w *watcher) step(k int, pos fold.Pos) {
	ticked := w.m.Step()
	tick, _ := w.m.Tick()
	if !ticked || tick != pos.Tick || w.m.Ticks() != k+1 || w.m.Count() != pos.Count || w.m.Frames() != len(pos.Frames) {
		w.Fatalf("%s\nplain %v, at %d: a tick %v, %v; want %v\n%s", w.text(), w.Plain, k, ticked, tick, pos, printed(w.Build))
	}
	for i, f := range pos.Frames {
		rows := w.tables[f.Proc].Over
		if i == len(pos.Frames)-1 {
			rows = w.tables[f.Proc].At
		}
		w.frame(k, i, f, rows[f.Mark])
	}
}

// frame asks for the values of a frame: those that can be told are the program's.
func (w *watcher) frame(k, i int, f fold.Frame, row []bool) {
	var told []int
	for v, x := range w.info.Vars[f.Proc] {
		l, e := gen.Value(w.Build, w.m, i, v)
		in := x.From <= f.Mark && f.Mark <= x.To
		switch {
		case row[v]:
			if e != api.OK || !slices.Equal(l, f.Vals[v]) {
				w.Fatalf("%s\nplain %v, kept %v, at %d, in the frame %d of %d: %s is %v, %d; want %v\n%s", w.text(), w.Plain, w.keep, k, i, w.m.Frames(), x.Name, l, e, f.Vals[v], printed(w.Build))
			}
			told = append(told, v)
			w.told++
			if slices.ContainsFunc(l, func(n int64) bool { return n != 0 }) {
				w.others++
			}
		case e != api.ErrGone || len(l) > 0:
			w.Fatalf("%s\nplain %v, at %d: %s is %v, %d", w.text(), w.Plain, k, x.Name, l, e)
		case in:
			w.gone++
		}
		if e == api.OK && !in || e != api.OK && in && (w.Plain || w.keeps(f.Proc, v)) { // P11.7
			w.Fatalf("%s\nplain %v, kept %v, at %d: %s is told %d", w.text(), w.Plain, w.keep, k, x.Name, e)
		}
	}
	if l := gen.Told(w.Build, w.m, i); !slices.Equal(l, told) {
		w.Fatalf("%s\nplain %v, at %d: told is %v; want %v", w.text(), w.Plain, k, l, told)
	}
}

// answers asks for the answer of each frame. What one is left with is what the return at the tick ahead is worth there.
func (w *watcher) answers(h fold.History, k int) {
	pos := h.Pos[k]
	for i, f := range pos.Frames {
		n, e := gen.Answer(w.Build, w.m, i)
		if i < len(pos.Frames)-1 || pos.Tick.Kind != api.MLeave || w.Prog().Procs[f.Proc].Type == api.None {
			if n != 0 || e != api.ErrGone {
				w.Fatalf("%s\nplain %v, at %d: Answer(%d) = %d, %d", w.text(), w.Plain, k, i, n, e)
			}
			continue
		}
		ahead := h.Pos[k-1]
		last := ahead.Frames[i]
		s, _ := check.Stmt(w.Prog().Procs[f.Proc], last.Mark)
		var env fold.Env
		for v, x := range w.info.Vars[f.Proc] {
			env.Names, env.Vals, env.Lists = append(env.Names, x.Name), append(env.Vals, last.Vals[v][0]), append(env.Lists, nil)
			if x.Size > 0 {
				env.Lists[v] = last.Vals[v]
			}
		}
		if want, _ := fold.Eval(s.E[0], env); n != want || e != api.OK {
			w.Fatalf("%s\nplain %v, at %d: Answer(%d) = %d, %d; want %d", w.text(), w.Plain, k, i, n, e, want)
		}
		w.counts.answers++
	}
}

// Prog is the program that was given.
func (w *watcher) Prog() api.Prog { return w.setting.Prog }

func TestMade(t *testing.T) { // W2, P11.2, P11.3, P11.5 to P11.8
	ends := map[api.Event]int{}
	var plainly, leanly counts
	for seed := range uint64(2000) {
		s := made(t, rand.New(rand.NewPCG(seed, 33)))
		ends[s.asks(t, true, &plainly)]++
		s.asks(t, false, &leanly)
	}
	for _, e := range []api.Event{{Kind: api.EvEnd}, {Kind: api.EvFuel}, {Kind: api.EvTrap, N: api.TrapZero}, {Kind: api.EvTrap, N: api.TrapIndex}, {Kind: api.EvTrap, N: api.TrapAssert}, {Kind: api.EvTrap, N: api.TrapDepth}, {Kind: api.EvTrap, N: api.TrapInput}} {
		if ends[e] < 5 {
			t.Errorf("%d end with %v", ends[e], e)
		}
	}
	if plainly.gone > 0 || plainly.told < 100000 || plainly.others < 10000 || plainly.answers < 300 {
		t.Errorf("plain: %v", plainly)
	}
	if leanly.gone < 50000 || leanly.told < 50000 || leanly.others < 10000 || leanly.answers != plainly.answers {
		t.Errorf("lean: %v", leanly)
	}
}

func TestMadeTogether(t *testing.T) { // P11.3: nothing kept, where most lies together
	together := 0
	var c counts
	for seed := range uint64(1000) {
		s := made(t, rand.New(rand.NewPCG(seed, 34)))
		s.keep, s.fuel = nil, 400
		s.asks(t, false, &c)
		for i := range s.Procs {
			together += s.table(i, true).Size - s.table(i, false).Size
		}
	}
	if together < 1000 {
		t.Errorf("%d cells are saved", together)
	}
}

func TestKeptMore(t *testing.T) { // P11.5: what is kept plays no part in ticks and events
	var c counts
	for seed := range uint64(500) {
		r := rand.New(rand.NewPCG(seed, 35))
		s := made(t, r)
		for many := range 5 {
			s.keep = s.some(r, many)
			s.asks(t, false, &c)
		}
	}
	if c.told < 100000 {
		t.Errorf("%v", c)
	}
}

func TestLeanIsLess(t *testing.T) { // a build that is not plain has no more instructions and cells
	plainly, leanly := 0, 0
	for seed := range uint64(1000) {
		s := made(t, rand.New(rand.NewPCG(seed, 36)))
		a, b := build(t, s.Prog, nil, true), build(t, s.Prog, nil, false)
		for i := range s.Procs {
			x, y := a.Codes[i], b.Codes[i]
			if len(y.Ins) > len(x.Ins) || y.Cells > x.Cells {
				t.Fatalf("%s\n%s\n%s", s.text(), printed(a), printed(b))
			}
			plainly += len(x.Ins)
			leanly += len(y.Ins)
		}
	}
	if 10*leanly > 9*plainly {
		t.Errorf("%d of %d instructions", leanly, plainly)
	}
}

func TestBent(t *testing.T) { // P11.1: as Check says; those that it takes have builds
	right := 0
	var c counts
	for seed := range uint64(3000) {
		r := rand.New(rand.NewPCG(seed, 37))
		s := made(t, r)
		s.Prog = sample.Bent(r.IntN, sample.BentExpr(r.IntN, s.Prog))
		plain := r.IntN(2) == 0
		info, at, e := check.Check(s.Prog)
		if e == api.OK {
			right++
			s.info, s.fuel = info, 100
			s.asks(t, plain, &c)
			continue
		}
		if b, place, f := gen.Compile(s.Prog, s.keep, plain); f != e || place != at || !reflect.DeepEqual(b, gen.Build{}) {
			t.Fatalf("%v: Compile = %v, %d; want %v, %d", s.Prog, place, f, at, e)
		}
	}
	if right < 200 || right > 2800 {
		t.Errorf("%d are right", right)
	}
}

// FuzzGen holds builds against what programs do, on programs that numbers pick.
func FuzzGen(f *testing.F) {
	f.Add(uint64(0), uint64(1))
	f.Fuzz(func(t *testing.T, a, b uint64) {
		s := made(t, rand.New(rand.NewPCG(a, b)))
		var c counts
		s.asks(t, true, &c)
		s.asks(t, false, &c)
	})
}
