package peep_test

import (
	"math/rand/v2"
	"reflect"
	"slices"
	"strings"
	"testing"

	"parallax/api"
	"parallax/code"
	"parallax/peep"
	"parallax/sample"
	"parallax/vm"
)

// padder puts instructions into a code that leave it sound, such as rules are about.
type padder struct {
	*rand.Rand
	api.Code
	heights []int
}

// padded are codes with so many rows of instructions more.
func padded(r *rand.Rand, l []api.Code, rows int) []api.Code {
	l = sample.CopyCodes(l)
	for range rows {
		k := r.IntN(len(l))
		heights, _ := code.Heights(l, k)
		p := padder{r, l[k], heights}
		if at := r.IntN(len(heights)); heights[at] >= 0 {
			p.insert(at, p.row(at))
		}
		l[k] = p.Code
	}
	return l
}

// insert puts a row at a place. What led there, or to a row's own -1, leads to any place of the row or behind it, at the first height.
func (p *padder) insert(at int, row []api.Ins) {
	moved := func(to int64) int64 {
		switch {
		case to > int64(at):
			return to + int64(len(row))
		case to == int64(at) && p.IntN(2) == 0:
			return to + int64(len(row))
		}
		return to
	}
	l := slices.Concat(p.Ins[:at], row, p.Ins[at:])
	for k, i := range l {
		if i.Op == api.OpJump || i.Op == api.OpZero {
			if i.N < 0 {
				l[k].N = int64(k) + 1
			} else {
				l[k].N = moved(i.N)
			}
		}
	}
	p.Ins = l
}

// level is a place with the same height as another one.
func (p *padder) level(at int) int64 {
	for {
		if to := p.IntN(len(p.heights)); p.heights[to] == p.heights[at] {
			return int64(to)
		}
	}
}

func (p *padder) number() int64 {
	return []int64{0, 0, 1, 1, -1, 2, 7, 1 << 62, -1 << 63}[p.IntN(9)]
}

// value is what puts one number on the stack.
func (p *padder) value() api.Ins {
	if p.Cells > 0 && p.IntN(3) == 0 {
		return api.Ins{Op: api.OpLoad, N: int64(p.IntN(p.Cells))}
	}
	return api.Ins{Op: api.OpPush, N: p.number()}
}

// row makes instructions that leave the stack as high as it was.
func (p *padder) row(at int) []api.Ins {
	n := p.IntN(8)
	if n < 3 && p.heights[at] > 0 {
		return p.onTop(n)
	}
	cell := func(n int) int64 { return int64(p.IntN(n)) }
	switch {
	case n < 4 && p.Cells > 0:
		x := cell(p.Cells)
		return []api.Ins{{Op: api.OpLoad, N: x}, {Op: api.OpStore, N: x}}
	case n < 5 && p.Cells > 1:
		x := cell(p.Cells - 1)
		return []api.Ins{{Op: api.OpClear, N: x, M: 1}, {Op: api.OpClear, N: x + 1, M: 1}}
	case n < 6:
		return []api.Ins{{Op: api.OpJump, N: p.to(at)}}
	}
	last := []api.Ins{{Op: api.OpDrop}, {Op: api.OpTest}, {Op: api.OpZero, N: p.to(at)}, {Op: api.OpZero, N: p.to(at)}}
	return append(p.reckoned(), last[p.IntN(len(last))])
}

// onTop makes instructions that change the number on top of the stack.
func (p *padder) onTop(n int) []api.Ins {
	switch n {
	case 0:
		return []api.Ins{{Op: api.OpNeg - p.IntN(2)}}
	case 1:
		return []api.Ins{{Op: api.OpPush, N: p.number()}, {Op: api.OpAdd + p.IntN(2)}}
	}
	return append(p.reckoned(), api.Ins{Op: api.OpAdd + p.IntN(8)})
}

func (p *padder) reckoned() []api.Ins {
	switch p.IntN(3) {
	case 0:
		return []api.Ins{p.value()}
	case 1:
		return []api.Ins{p.value(), {Op: api.OpNot + p.IntN(2)}}
	}
	return []api.Ins{p.value(), p.value(), {Op: api.OpAdd + p.IntN(8)}}
}

// to is where a jump may lead, as a rule behind it; -1 is the next place.
func (p *padder) to(at int) int64 {
	if p.IntN(4) == 0 {
		return -1
	}
	for range 3 {
		if to := p.level(at); to >= int64(at) {
			return to
		}
	}
	return p.level(at)
}

// tangled is a code of short rows, between any two of which the stack is empty, with jumps from any to any.
func tangled(r *rand.Rand) api.Code {
	var rows [][]api.Ins
	for range 2 + r.IntN(20) {
		to := int64(r.IntN(20)) // a row
		jump, a := api.Ins{Op: api.OpJump, N: to}, api.Ins{Op: api.OpPush, N: int64(r.IntN(3))}
		rows = append(rows, [][]api.Ins{
			{jump}, {jump}, {a, {Op: api.OpZero, N: to}}, {a, {Op: api.OpZero, N: to}}, {{Op: api.OpRead}, {Op: api.OpZero, N: to}},
			{{Op: api.OpMark, N: to, M: api.MStmt}}, {a, {Op: api.OpPrint}}, {a, {Op: api.OpDrop}},
			{{Op: api.OpClear, N: to, M: 1}, {Op: api.OpClear, N: to + 1, M: 1}}, {{Op: api.OpLoad, N: to}, {Op: api.OpStore, N: to}},
		}[r.IntN(10)])
	}
	rows = append(rows, []api.Ins{{Op: api.OpLeave}})
	c := api.Code{Cells: 21}
	var places []int64
	for _, row := range rows {
		places = append(places, int64(len(c.Ins)))
		c.Ins = append(c.Ins, row...)
	}
	for k, i := range c.Ins {
		if i.Op == api.OpJump || i.Op == api.OpZero {
			c.Ins[k].N = places[int(i.N)%len(places)]
		}
	}
	return c
}

// made are codes, the same ones for a seed in each run.
func made(t *testing.T, seed uint64) ([]api.Code, int, *rand.Rand) {
	t.Helper()
	r := rand.New(rand.NewPCG(seed, 20))
	l, main := sample.Codes(r.IntN)
	l = padded(r, l, r.IntN(16))
	if !code.Sound(l, main) {
		t.Fatalf("%s is not sound", text(l))
	}
	return l, main, r
}

// text is codes', for what is told of a fault.
func text(l []api.Code) string {
	var b strings.Builder
	for _, c := range l {
		b.WriteString(code.Print(c) + "\n")
	}
	return b.String()
}

// alike tells whether codes are the same ones.
func alike(a, b []api.Code) bool {
	return slices.EqualFunc(a, b, func(x, y api.Code) bool {
		return slices.Equal(x.Ins, y.Ins) && x.Cells == y.Cells && x.Params == y.Params && x.Answers == y.Answers
	})
}

// asks holds what is told of codes against the second reading.
func asks(t *testing.T, l []api.Code, main int) []step {
	t.Helper()
	before := sample.CopyCodes(l)
	for k, c := range l {
		s, _ := sceneOf(l, k)
		for at := -1; at <= len(c.Ins); at++ {
			if want, _, _ := s.first(at); peep.Rule(l, k, at) != want {
				t.Fatalf("%s Rule(%d, %d) = %d; want %d", text(l), k, at, peep.Rule(l, k, at), want)
			}
		}
		want, number, _ := doneOnce(l, k)
		if got, done := peep.Once(l, k); done != (number > 0) || !alike([]api.Code{got}, []api.Code{want}) {
			t.Fatalf("%s Once(%d) = %v, %v; want %v", text(l), k, got, done, want)
		}
	}
	got, e := peep.Make(l, main)
	if sound := code.Sound(l, main); sound != (e == api.OK) || !sound && (got != nil || e != api.ErrCode) {
		t.Fatalf("%s sound: %v; Make: %d", text(l), sound, e)
	}
	var steps []step
	if e == api.OK {
		var want []api.Code
		if want, steps = doneAll(l); !alike(got, want) {
			t.Fatalf("%s\nmade short\n%s\nwant\n%s", text(l), text(got), text(want))
		}
	}
	if !reflect.DeepEqual(sample.CopyCodes(l), before) {
		t.Fatalf("%v was changed", before)
	}
	return steps
}

func TestMade(t *testing.T) { // P10.1 to P10.3 against a second reading
	var rules [13]int
	back := 0
	for seed := range uint64(1500) {
		l, main, _ := made(t, seed)
		at := 0
		for _, s := range asks(t, l, main) {
			rules[s.rule]++
			if s.at < at-3 {
				back++
			}
			at = s.at
		}
	}
	for rule := 1; rule <= 12; rule++ {
		if rules[rule] < 200 {
			t.Errorf("rule %d was done %d times", rule, rules[rule])
		}
	}
	if back < 500 {
		t.Errorf("%d steps went back", back)
	}
}

func TestTangled(t *testing.T) { // P10.1 to P10.7 where jumps lead to jumps, back and forth
	var rules [13]int
	for seed := range uint64(4000) {
		r := rand.New(rand.NewPCG(seed, 21))
		l := []api.Code{tangled(r)}
		for _, s := range asks(t, l, 0) {
			rules[s.rule]++
		}
		if seed%10 == 0 { // many of them go round for long
			input, fuel := setting(r)
			follows(t, l, 0, input, fuel)
		}
	}
	for _, rule := range []int{1, 2, 3, 4, 7, 9, 10, 12} {
		if rules[rule] < 200 {
			t.Errorf("rule %d was done %d times", rule, rules[rule])
		}
	}
}

func TestMadeOdd(t *testing.T) { // P10.1 to P10.3 of codes most of which are not sound
	odd := 0
	for seed := range uint64(1500) {
		l, main, r := made(t, seed)
		for range 1 + r.IntN(3) {
			l = sample.BentCodes(r.IntN, l)
		}
		asks(t, l, main)
		if !code.Sound(l, main) {
			odd++
		}
	}
	if odd < 500 || odd > 1400 {
		t.Errorf("%d are not sound", odd)
	}
}

// view is what is seen of a machine.
type view struct {
	tick   api.Tick
	ticked bool
	events []api.Event
	frames []shape
}

// shape is what is seen of a frame.
type shape struct {
	proc, mark int
	cells      []int64
}

func seenOf(m *vm.Machine) view {
	tick, ticked := m.Tick()
	v := view{tick: tick, ticked: ticked, events: m.Events()}
	for k := range m.Frames() {
		proc, mark, cells, _ := m.Frame(k)
		v.frames = append(v.frames, shape{proc, mark, append([]int64{}, cells...)})
	}
	return v
}

// start is a machine.
func start(t *testing.T, l []api.Code, main int, input []int64, fuel int) *vm.Machine {
	t.Helper()
	m, e := vm.New(l, main, input, fuel)
	if e != api.OK {
		t.Fatalf("%s New: %d", text(l), e)
	}
	return m
}

// isLong tells whether a machine runs as many instructions without a tick as it may: with more fuel there is none for it.
func isLong(t *testing.T, l []api.Code, main int, input []int64, fuel int) bool {
	t.Helper()
	m := start(t, l, main, input, fuel+1)
	for m.Step() {
	}
	events := m.Events()
	return m.Ticks() <= fuel && events[len(events)-1].Kind == api.EvFuel
}

// marksOf are the marks of a code, in order; all of them, or those that can be reached.
func marksOf(l []api.Code, k int, all bool) []api.Ins {
	heights, _ := code.Heights(l, k)
	var marks []api.Ins
	for at, i := range l[k].Ins {
		if i.Op == api.OpMark && (all || heights[at] >= 0) {
			marks = append(marks, i)
		}
	}
	return marks
}

// isPartOf tells whether marks are there among others, in order.
func isPartOf(part, all []api.Ins) bool {
	for _, i := range all {
		if len(part) > 0 && part[0] == i {
			part = part[1:]
		}
	}
	return len(part) == 0
}

// keepsMarks does rule by rule, and asks whether each one leaves the marks there that can be reached ahead of it, and the code no longer.
func keepsMarks(t *testing.T, l []api.Code, k int) api.Code { // P10.7
	t.Helper()
	l = slices.Clone(l)
	for {
		c, done := peep.Once(l, k)
		if !done {
			return c
		}
		must, longest := marksOf(l, k, false), len(l[k].Ins)
		was := l[k]
		l[k] = c
		if !isPartOf(must, marksOf(l, k, true)) || len(c.Ins) > longest {
			t.Fatalf("%s\nonce\n%s", code.Print(was), code.Print(c))
		}
	}
}

// follows asks for what must hold of codes that were made short, with an input and fuel, and tells whether they could be run.
func follows(t *testing.T, l []api.Code, main int, input []int64, fuel int) bool {
	t.Helper()
	short, e := peep.Make(l, main)
	if e != api.OK || !code.Sound(short, main) { // P10.4
		t.Fatalf("%s\nmade short\n%s\n%d", text(l), text(short), e)
	}
	if again, e := peep.Make(short, main); e != api.OK || !alike(again, short) { // P10.6
		t.Fatalf("%s\nmade short\n%s\ntwice\n%s", text(l), text(short), text(again))
	}
	for k := range l {
		if c := keepsMarks(t, l, k); !alike([]api.Code{c}, short[k:k+1]) {
			t.Fatalf("%s\nmade short\n%s\none by one\n%s", text(l), text(short), code.Print(c))
		}
	}
	if isLong(t, l, main, input, fuel) {
		return false
	}
	one, other := start(t, l, main, input, fuel), start(t, short, main, input, fuel) // P10.5
	for ticked := true; ticked; {
		ticked = one.Step()
		if other.Step() != ticked || !reflect.DeepEqual(seenOf(one), seenOf(other)) {
			t.Fatalf("%s\nmade short\n%s\ntick %d and tick %d", text(l), text(short), one.Ticks(), other.Ticks())
		}
	}
	return true
}

// setting is an input and fuel.
func setting(r *rand.Rand) ([]int64, int) {
	var input []int64
	for range r.IntN(8) {
		input = append(input, int64(r.IntN(9)-2))
	}
	return input, r.IntN(60)
}

func TestMadeFollows(t *testing.T) { // P10.4 to P10.7
	ran := 0
	for seed := range uint64(2000) {
		l, main, r := made(t, seed)
		input, fuel := setting(r)
		if follows(t, l, main, input, fuel) {
			ran++
		}
	}
	if ran < 1200 {
		t.Errorf("%d were run", ran)
	}
}

func FuzzPeep(f *testing.F) {
	for seed := range uint64(20) {
		f.Add(seed, int(seed%4))
	}
	f.Fuzz(func(t *testing.T, seed uint64, bent int) {
		l, main, r := made(t, seed)
		for range min(max(bent, 0), 5) {
			l = sample.BentCodes(r.IntN, l)
		}
		asks(t, l, main)
		if code.Sound(l, main) {
			input, fuel := setting(r)
			follows(t, l, main, input, fuel)
		}
	})
}
