package gen_test

import (
	"math"
	"math/rand/v2"
	"slices"
	"strconv"
	"strings"
	"testing"

	"parallax/api"
	"parallax/check"
	"parallax/code"
	"parallax/gen"
	"parallax/live"
	"parallax/sample"
	"parallax/vm"
)

// at is a machine behind so many ticks.
func at(t *testing.T, b gen.Build, input []int64, ticks int) *vm.Machine {
	t.Helper()
	m := start(t, b, input, 999)
	for range ticks {
		if !m.Step() {
			t.Fatalf("it ends behind %d ticks", m.Ticks())
		}
	}
	return m
}

// shown is what is told of a frame: names and values, or ? for what is gone.
func shown(t *testing.T, b gen.Build, m *vm.Machine, frame int) string {
	t.Helper()
	var s []string
	proc, _, _, _ := m.Frame(frame)
	told := gen.Told(b, m, frame)
	for v, x := range b.Info.Vars[proc] {
		l, e := gen.Value(b, m, frame, v)
		if (e == api.OK) != slices.Contains(told, v) || e != api.OK && (e != api.ErrGone || len(l) > 0) {
			t.Fatalf("Told %v, Value of %d: %v, %d", told, v, l, e)
		}
		text := "?"
		if e == api.OK {
			text = ""
			for _, n := range l {
				text += strconv.FormatInt(n, 10) + " "
			}
		}
		s = append(s, x.Name+" "+strings.TrimSpace(text))
	}
	if !slices.IsSorted(told) {
		t.Fatalf("Told %v", told)
	}
	return strings.Join(s, ", ")
}

// tells asks what is told of the last frame, tick by tick.
func tells(t *testing.T, b gen.Build, input []int64, want ...string) {
	t.Helper()
	m := start(t, b, input, 999)
	for k, s := range want {
		if !m.Step() {
			t.Fatalf("it ends behind %d ticks", m.Ticks())
		}
		if got := shown(t, b, m, m.Frames()-1); got != s {
			t.Errorf("plain %v, at the tick %d: %q; want %q", b.Plain, k, got, s)
		}
	}
	if m.Step() {
		t.Errorf("plain %v: more than %d ticks", b.Plain, len(want))
	}
}

func TestTellsPlain(t *testing.T) { // P11.3: all that is in scope
	b := build(t, program(t, "proc main(){var x;var a[2];read x;if(x<9){var bool b;a[1]=x;b=a[1]==5;print b;} x=3;}"), nil, true)
	tells(t, b, []int64{5}, "x ?, a ?, b ?", "x ?, a ?, b ?", "x 0, a ?, b ?", "x 0, a 0 0, b ?", "x 5, a 0 0, b ?", "x 5, a 0 0, b ?",
		"x 5, a 0 0, b 0", "x 5, a 0 5, b 0", "x 5, a 0 5, b 1", "x 5, a 0 5, b ?", "x ?, a ?, b ?")
}

func TestTellsLean(t *testing.T) { // P11.3: what is needed, and what is kept
	p := program(t, "proc main ( ) { var x ; var y ; x = 1 ; print x ; read y ; print y ; }")
	lean := build(t, p, nil, false)
	tells(t, lean, []int64{5}, "x ?, y ?", "x ?, y ?", "x ?, y ?", "x ?, y ?", "x 1, y ?", "x ?, y ?", "x ?, y 5", "x ?, y ?")
	if l := lean.Tables[0]; l.Cells[0] != l.Cells[1] || l.Size != 1 || lean.Codes[0].Cells != 1 {
		t.Errorf("x and y do not lie together: %v", l)
	}
	kept := build(t, p, []gen.Keep{{Proc: "main", Var: "x"}}, false)
	tells(t, kept, []int64{5}, "x ?, y ?", "x ?, y ?", "x 0, y ?", "x 0, y ?", "x 1, y ?", "x 1, y ?", "x 1, y 5", "x ?, y ?")
	p = program(t, "proc main(){var a[2];var x;a[1]=7;read x;a[0]=a[1]+x;x=2;}")
	tells(t, build(t, p, nil, false), []int64{5}, "a ?, x ?", "a ?, x ?", "a 0 0, x ?", "a 0 0, x ?", "a 0 7, x ?", "a 0 7, x 5", "a ?, x ?", "a ?, x ?")
	tells(t, build(t, p, []gen.Keep{{Proc: "main", Var: "a"}}, false), []int64{5}, "a ?, x ?", "a ?, x ?", "a 0 0, x ?", "a 0 0, x ?", "a 0 7, x ?", "a 0 7, x 5", "a 12 7, x ?", "a ?, x ?")
}

func TestTellsKnown(t *testing.T) { // P11.3: numbers that are put in are still told where they are needed
	p := program(t, "proc main(){var x;x=2;while(x<3){print x+1;x=x+1;} if(x==3){print 7;}else{print x;}}")
	tells(t, build(t, p, nil, false), nil, "x ?", "x ?", "x ?", "x 2", "x 2", "x 2", "x 3", "x 3", "x ?", "x ?")
}

func TestTellsOver(t *testing.T) { // P11.3: frames that wait for a call
	p := program(t, "proc main(){var x;var y;var z;x=1;y=2;z=3;y=f(x,z);print y+x;} proc f(int a,int b) int {b=a+4;return b;}")
	for _, c := range []struct {
		keep  []gen.Keep
		plain bool
		outer string
		inner []string
	}{
		{nil, true, "x 1, y 2, z 3", []string{"a 1, b 3", "a 1, b 3", "a 1, b 5", "a 1, b 5"}},
		{nil, false, "x 1, y ?, z ?", []string{"a 1, b ?", "a 1, b ?", "a ?, b 5", "a ?, b ?"}},
		{[]gen.Keep{{Proc: "main", Var: "y"}, {Proc: "f", Var: "a"}}, false, "x 1, y 2, z ?", []string{"a 1, b ?", "a 1, b ?", "a 1, b 5", "a 1, b ?"}},
	} {
		b := build(t, p, c.keep, c.plain)
		for k, want := range c.inner {
			m := at(t, b, nil, 9+k)
			if outer, inner := shown(t, b, m, 0), shown(t, b, m, 1); outer != c.outer || inner != want {
				t.Errorf("%v, at the tick %d: %q, %q; want %q, %q", c, 8+k, outer, inner, c.outer, want)
			}
		}
	}
}

func TestPlaces(t *testing.T) { // P11.3, P11.8: what there is not, and what is gone
	p := program(t, "proc main(){var x;x=f(4);print 1/x;} proc f(int a) int {return a-4;} proc g(int p,int q,int r){}")
	for _, plain := range []bool{true, false} {
		b := build(t, p, []gen.Keep{{Proc: "main", Var: "x"}}, plain)
		in, out, begun, ended := at(t, b, nil, 5), at(t, b, nil, 7), at(t, b, nil, 0), at(t, b, nil, 7)
		ended.Step()
		for _, c := range []struct {
			m        *vm.Machine
			frame, v int
			want     api.Errno
		}{
			{in, 0, 0, api.OK}, {in, 1, 0, api.OK}, {in, 2, 0, api.ErrPlace}, {in, -1, 0, api.ErrPlace}, {in, 0, 1, api.ErrPlace}, {in, 0, -1, api.ErrPlace},
			{in, 1, 1, api.ErrPlace}, {in, math.MaxInt, 0, api.ErrPlace}, {in, math.MinInt, 0, api.ErrPlace}, {in, 0, math.MaxInt, api.ErrPlace}, {in, 0, math.MinInt, api.ErrPlace},
			{out, 0, 0, api.OK}, {out, 1, 0, api.ErrPlace},
			{begun, 0, 0, api.ErrGone}, {begun, 0, 1, api.ErrPlace}, {begun, 1, 0, api.ErrPlace},
			{ended, 0, 0, api.ErrGone}, {ended, 0, 1, api.ErrPlace}, {ended, 1, 0, api.ErrPlace},
			{nil, 0, 0, api.ErrPlace}, {nil, -1, -1, api.ErrPlace},
		} {
			l, e := gen.Value(b, c.m, c.frame, c.v)
			if e != c.want || (len(l) == 1) != (e == api.OK) {
				t.Errorf("plain %v: Value(%d, %d) = %v, %d; want %d", plain, c.frame, c.v, l, e, c.want)
			}
			told := gen.Told(b, c.m, c.frame)
			if e == api.OK && !slices.Equal(told, []int{0}) || e == api.ErrGone && len(told) > 0 || c.v == 0 && e == api.ErrPlace && len(told) > 0 {
				t.Errorf("plain %v: Told(%d) = %v", plain, c.frame, told)
			}
		}
	}
}

func TestEndedByLeave(t *testing.T) { // P11.3, P11.8: then there is no frame
	b := build(t, program(t, "proc main(){var x;}"), nil, true)
	m := at(t, b, nil, 3)
	m.Step()
	if l, e := gen.Value(b, m, 0, 0); !m.Ended() || l != nil || e != api.ErrPlace || len(gen.Told(b, m, 0)) > 0 {
		t.Errorf("Value = %v, %d", l, e)
	}
	if n, e := gen.Answer(b, m, 0); n != 0 || e != api.ErrPlace {
		t.Errorf("Answer = %d, %d", n, e)
	}
}

func TestAnswer(t *testing.T) { // P11.8
	p := program(t, "proc main(){f(4);g(4);h(4);} proc f(int a) int {if(a<9){return a-9;} return 7;} proc g(int a) bool {return a==4;} proc h(int a){return;}")
	for _, plain := range []bool{true, false} {
		b := build(t, p, nil, plain)
		m := start(t, b, nil, 99)
		answers := map[int]int64{}
		for {
			for _, frame := range []int{-1, 0, 1, 2, math.MaxInt} {
				n, e := gen.Answer(b, m, frame)
				switch {
				case e == api.OK && frame == m.Frames()-1:
					tick, _ := m.Tick()
					if tick.Kind != api.MLeave {
						t.Errorf("plain %v: an answer at %v", plain, tick)
					}
					answers[m.Ticks()] = n
				case n != 0 || e == api.OK || (e == api.ErrGone) != (0 <= frame && frame < m.Frames()) || e != api.ErrGone && e != api.ErrPlace:
					t.Errorf("plain %v, at %d: Answer(%d) = %d, %d", plain, m.Ticks(), frame, n, e)
				}
			}
			if !m.Step() {
				break
			}
		}
		if len(answers) != 2 || answers[6] != -5 || answers[10] != 1 {
			t.Errorf("plain %v: answers %v", plain, answers)
		}
		if n, e := gen.Answer(b, nil, 0); n != 0 || e != api.ErrPlace {
			t.Errorf("Answer of no machine = %d, %d", n, e)
		}
	}
}

func TestAnswerEnded(t *testing.T) { // P11.8: a machine that ends where a procedure is left
	b := build(t, program(t, "proc f() int {return 3;} proc main(){var x;x=f();x=1/(x-3);}"), nil, true)
	m := at(t, b, nil, 6)
	if n, e := gen.Answer(b, m, 1); n != 3 || e != api.OK {
		t.Errorf("Answer = %d, %d", n, e)
	}
	codes := []api.Code{b.Codes[0], {Ins: []api.Ins{{Op: api.OpCall, N: 0}, {Op: api.OpDrop}, {Op: api.OpLeave}}}}
	codes[0].Ins = slices.Insert(slices.Clone(codes[0].Ins), len(codes[0].Ins)-2, api.Ins{Op: api.OpPush}, api.Ins{Op: api.OpTest}) // it traps behind the mark of being left
	other, e := vm.New(codes, 1, nil, 99)
	if e != api.OK {
		t.Fatal(e)
	}
	for other.Step() {
	}
	if n, e := gen.Answer(b, other, 1); other.Frames() != 2 || n != 0 || e != api.ErrGone {
		t.Errorf("Answer of %d frames = %d, %d", other.Frames(), n, e)
	}
}

// odd is a build that is none, and does not fit its machines.
func odd(r *rand.Rand, b gen.Build) gen.Build {
	number := func() int { return []int{math.MinInt, -1, 0, 1, 2, 65, math.MaxInt}[r.IntN(7)] }
	b.Info = check.Info{Vars: slices.Clone(b.Info.Vars), Marks: slices.Clone(b.Info.Marks)}
	b.Tables = slices.Clone(b.Tables)
	for range 1 + r.IntN(3) {
		k := r.IntN(len(b.Prog.Procs))
		switch r.IntN(9) {
		case 0:
			b.Tables = b.Tables[:min(k, len(b.Tables))]
		case 1:
			b.Info.Vars = b.Info.Vars[:min(k, len(b.Info.Vars))]
		case 2:
			b.Info.Marks = b.Info.Marks[:min(k, len(b.Info.Marks))]
		case 3:
			b.Prog.Procs = b.Prog.Procs[:k+1]
		case 4:
			b.Info.Marks = slices.Repeat([]int{number()}, len(b.Info.Marks))
		default:
			if k < len(b.Tables) && k < len(b.Info.Vars) {
				b.Tables[k], b.Info.Vars[k] = oddTable(r, b.Tables[k], number), sample.OddVars(r.IntN, b.Info.Vars[k])
			}
		}
	}
	return b
}

func oddTable(r *rand.Rand, l live.Table, number func() int) live.Table {
	cut := func(rows [][]bool) [][]bool {
		rows = slices.Clone(rows[:r.IntN(len(rows)+1)])
		for i := range rows {
			rows[i] = slices.Repeat([]bool{true}, r.IntN(9))
		}
		return rows
	}
	l.At, l.Over, l.Cells, l.Size = cut(l.At), cut(l.Over), slices.Clone(l.Cells), number()
	for i := range l.Cells {
		l.Cells[i] = number()
	}
	return l
}

// looks asks for all that there may be of a machine, and that what is not told is zero.
func looks(t *testing.T, b gen.Build, m *vm.Machine) {
	t.Helper()
	for _, frame := range []int{-1, 0, 1, m.Frames() - 1, m.Frames(), math.MaxInt} {
		told := gen.Told(b, m, frame)
		for _, v := range []int{math.MinInt, -1, 0, 1, 2, 3, 60, 200, math.MaxInt} {
			l, e := gen.Value(b, m, frame, v)
			if (e == api.OK) != slices.Contains(told, v) || (e == api.OK) != (len(l) > 0) {
				t.Fatalf("Told %v, Value(%d, %d) = %v, %d", told, frame, v, l, e)
			}
		}
		if n, e := gen.Answer(b, m, frame); e != api.OK && n != 0 {
			t.Fatalf("Answer(%d) = %d, %d", frame, n, e)
		}
	}
}

func TestOddBuilds(t *testing.T) { // P1: builds and machines that do not belong together
	for seed := range uint64(500) {
		r := rand.New(rand.NewPCG(seed, 31))
		b, other := build(t, sample.Prog(r.IntN), nil, r.IntN(2) == 0), build(t, sample.Prog(r.IntN), nil, r.IntN(2) == 0)
		codes, main := sample.Codes(r.IntN)
		strange, _ := vm.New(codes, main, []int64{1, 2, 3}, 30)
		for _, m := range []*vm.Machine{start(t, b, []int64{3}, 40), start(t, other, []int64{3}, 40), strange, nil, {}} {
			for range 12 {
				looks(t, b, m)
				looks(t, odd(r, b), m)
				looks(t, gen.Build{}, m)
				if m.Frames() > 0 {
					m.Step()
				}
			}
		}
		bent := b
		bent.Codes = sample.BentCodes(r.IntN, b.Codes)
		if m, e := gen.Start(bent, nil, 9); (e == api.OK) != code.Sound(bent.Codes, b.Main) || (m != nil) != (e == api.OK) {
			t.Fatalf("Start of codes that were bent: %v, %d", m, e)
		}
	}
}
