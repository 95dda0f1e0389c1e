package fold_test

import (
	"math/big"
	"strings"
	"testing"

	"parallax/api"
	"parallax/check"
	"parallax/fold"
)

// A second reading of the chapter, for tests against many expressions and programs: integers of any size that begin anew, rules as texts, a machine that goes from mark to mark.

// around is the one integer that differs by a multiple of 2^64.
func around(n *big.Int) int64 {
	m := new(big.Int).And(n, new(big.Int).SetUint64(1<<64-1))
	return int64(m.Uint64())
}

func whether(b bool) *big.Int {
	if b {
		return big.NewInt(1)
	}
	return big.NewInt(0)
}

// arity is how many parts an expression must have, or -1 of one that is none.
func arity(x api.Expr) int {
	switch {
	case x.Kind == api.EInt || x.Kind == api.EBool || x.Kind == api.EVar:
		return 0
	case x.Kind == api.EIndex, x.Kind == api.EUn && strings.Contains("-!", x.Name) && len(x.Name) == 1:
		return 1
	case x.Kind == api.EBin && strings.Contains(" + - * / % == != < <= && || ", " "+x.Name+" ") && x.Name != "" && !strings.Contains(x.Name, " "):
		return 2
	}
	return -1
}

func fits(x api.Expr) bool { return arity(x) == len(x.L) }

// reckon is what an expression is worth.
func reckon(x api.Expr, env fold.Env) (int64, int) {
	if !fits(x) {
		return 0, 0
	}
	var at int
	for at = 0; at < len(env.Names) && env.Names[at] != x.Name; at++ {
	}
	var l []int64
	if at < len(env.Names) && at < len(env.Lists) {
		l = env.Lists[at]
	}
	switch x.Kind {
	case api.EInt:
		return x.Num, 0
	case api.EBool:
		if x.Num != 1 {
			return 0, 0
		}
		return 1, 0
	case api.EVar:
		if at < len(env.Names) && at < len(env.Vals) && l == nil {
			return env.Vals[at], 0
		}
		return 0, 0
	}
	a, trap := reckon(x.L[0], env)
	if trap != 0 {
		return 0, trap
	}
	if x.Kind == api.EIndex {
		for i, n := range l {
			if int64(i) == a {
				return n, 0
			}
		}
		return 0, api.TrapIndex
	}
	if len(x.L) == 1 {
		if x.Name == "!" {
			return around(whether(a == 0)), 0
		}
		return around(new(big.Int).Neg(big.NewInt(a))), 0
	}
	if x.Name == "&&" && a == 0 {
		return 0, 0
	}
	if x.Name == "||" && a != 0 {
		return 1, 0
	}
	b, trap := reckon(x.L[1], env)
	if trap != 0 {
		return 0, trap
	}
	if b == 0 && (x.Name == "/" || x.Name == "%") {
		return 0, api.TrapZero
	}
	return around(between(big.NewInt(a), x.Name, big.NewInt(b))), 0
}

func between(a *big.Int, sign string, b *big.Int) *big.Int {
	n := new(big.Int)
	switch sign {
	case "+":
		return n.Add(a, b)
	case "-":
		return n.Sub(a, b)
	case "*":
		return n.Mul(a, b)
	case "/":
		return n.Quo(a, b)
	case "%":
		return n.Rem(a, b)
	case "<":
		return whether(a.Cmp(b) < 0)
	case "<=":
		return whether(a.Cmp(b) <= 0)
	case "==":
		return whether(a.Cmp(b) == 0)
	case "!=":
		return whether(a.Cmp(b) != 0)
	}
	return whether(b.Sign() != 0)
}

// shape is an expression as a text, all brackets written, without the fields that its kind does not have.
func shape(x api.Expr) string {
	if !fits(x) {
		return "odd"
	}
	switch x.Kind {
	case api.EInt:
		return "#" + big.NewInt(x.Num).String()
	case api.EBool:
		return "?" + big.NewInt(x.Num).String()
	case api.EVar:
		return "$" + x.Name
	case api.EIndex:
		return "$" + x.Name + "[" + shape(x.L[0]) + "]"
	case api.EUn:
		return "(" + x.Name + shape(x.L[0]) + ")"
	}
	return "(" + shape(x.L[0]) + " " + x.Name + " " + shape(x.L[1]) + ")"
}

// shapeOf is the shape of a number's expression.
func shapeOf(n int64) string {
	switch {
	case n == least:
		return "((-#9223372036854775807) - #1)"
	case n < 0:
		return "(-#" + strings.TrimPrefix(big.NewInt(n).String(), "-") + ")"
	}
	return "#" + big.NewInt(n).String()
}

// constant tells whether an expression is a constant, and which one.
func constant(x api.Expr) (int64, bool) {
	n, trap := reckon(x, fold.Env{})
	plain := fits(x) && (x.Kind == api.EInt || x.Kind == api.EBool)
	if trap != 0 || !plain && (shape(x) != shapeOf(n) || !fits(x)) {
		return 0, false
	}
	return n, true
}

func formed(x api.Expr) bool {
	s := " == != < <= && || "
	return fits(x) && (x.Kind == api.EBool || x.Kind == api.EUn && x.Name == "!" || x.Kind == api.EBin && strings.Contains(s, " "+x.Name+" "))
}

// rules are the chapter's behind that of constants: b stands for any expression, t for one that is true or false by its form.
var rules = []struct{ from, to string }{
	{"- - b", "b"}, {"! ! t", "t"}, {"false && b", "false"}, {"true || b", "true"},
	{"true && t", "t"}, {"false || t", "t"}, {"t && true", "t"}, {"t || false", "t"},
	{"b + 0", "b"}, {"b - 0", "b"}, {"b * 1", "b"}, {"b / 1", "b"}, {"0 + b", "b"}, {"1 * b", "b"},
}

// match tells whether an expression is a rule's, and what stands in the place of b or t.
func match(rule, x api.Expr, held *api.Expr) bool {
	if rule.Kind == api.EVar {
		*held = x
		return rule.Name == "b" || formed(x)
	}
	if !fits(x) || rule.Kind != x.Kind || len(rule.L) != 0 && rule.Name != x.Name || len(rule.L) == 0 && rule.Num != x.Num {
		return false
	}
	for i := range rule.L {
		if !match(rule.L[i], x.L[i], held) {
			return false
		}
	}
	return true
}

// folded is an expression, folded by the rules.
func folded(t *testing.T, x api.Expr) api.Expr {
	if !fits(x) {
		return even(x)
	}
	x = even(x)
	constants := len(x.L) > 0 && x.Kind != api.EIndex
	for i := range x.L {
		x.L[i] = folded(t, x.L[i])
		_, ok := constant(x.L[i])
		constants = constants && ok
	}
	if n, trap := reckon(x, fold.Env{}); constants && trap == 0 {
		if formed(x) {
			return truth(n)
		}
		return numeral(n)
	}
	for _, r := range rules {
		var held api.Expr
		if match(read(t, r.from), x, &held) {
			if to := read(t, r.to); to.Kind != api.EVar {
				return to
			}
			return held
		}
	}
	return x
}

func numeral(n int64) api.Expr {
	if n == least {
		return two(sign("-", whole(most)), "-", whole(1))
	}
	if n < 0 {
		return sign("-", whole(-n))
	}
	return whole(n)
}

// stop is a statement, and the marks that may come behind it: first of Body, first of Else.
type stop struct {
	api.Stmt
	yes, no int
}

// lay puts down statements from a mark on; behind is what comes behind the last one; it answers the first free mark.
func lay(l []api.Stmt, mark, behind int, all map[int]stop) int {
	for i, s := range l {
		after := mark + 1 + check.Count(api.Proc{Body: s.Body}) + check.Count(api.Proc{Body: s.Else})
		next := after
		if i == len(l)-1 {
			next = behind
		}
		x := stop{Stmt: s, yes: next, no: next}
		inner := next
		if s.Kind == api.SWhile {
			inner = mark
			x.yes = mark
		}
		if len(s.Body) > 0 {
			x.yes = mark + 1
		}
		other := lay(s.Body, mark+1, inner, all)
		if len(s.Else) > 0 {
			x.no = other
		}
		lay(s.Else, other, next, all)
		all[mark] = x
		mark = after
	}
	return mark
}

// box is a frame of the machine: next is the mark that comes.
type box struct {
	fold.Frame
	next   int
	answer int64
	taker  string
}

// machine goes through a right program.
type machine struct {
	p     api.Prog
	vars  [][]api.Var
	stops []map[int]stop
	last  []int
	boxes []*box
	fold.History
}

func newMachine(p api.Prog) *machine {
	m := &machine{p: p}
	for _, q := range p.Procs {
		m.last = append(m.last, check.Count(q)+1)
		m.stops = append(m.stops, map[int]stop{})
		lay(q.Body, 1, check.Count(q)+1, m.stops[len(m.stops)-1])
	}
	info, _, _ := check.Check(p)
	m.vars = info.Vars
	return m
}

func (m *machine) push(name string, vals []int64) {
	for i, q := range m.p.Procs {
		if q.Name != name {
			continue
		}
		b := &box{Frame: fold.Frame{Proc: i}}
		for j, v := range m.vars[i] {
			c := make([]int64, 1, 64)
			if v.Size > 0 {
				c = c[:v.Size]
			}
			if j < len(vals) {
				c[0] = vals[j]
			}
			b.Vals = append(b.Vals, c)
		}
		m.boxes = append(m.boxes, b)
	}
}

// env is what names stand for, of all variables in scope at a mark.
func (m *machine) env(b *box) fold.Env {
	var env fold.Env
	for i, v := range m.vars[b.Proc] {
		if b.Mark < v.From || v.To < b.Mark {
			continue
		}
		env.Names = append(env.Names, v.Name)
		env.Vals = append(env.Vals, b.Vals[i][0])
		if v.Size > 0 {
			env.Lists = append(env.Lists, b.Vals[i])
		} else {
			env.Lists = append(env.Lists, nil)
		}
	}
	return env
}

func (m *machine) at(b *box, name string) []int64 {
	for i, v := range m.vars[b.Proc] {
		if v.Name == name {
			return b.Vals[i]
		}
	}
	return nil
}

func (m *machine) event(kind int, n int64) {
	m.Events = append(m.Events, api.Event{Kind: kind, N: n})
}

// photograph puts down a tick.
func (m *machine) photograph(b *box) {
	kind := api.MStmt
	switch b.Mark {
	case 0:
		kind = api.MEnter
	case m.last[b.Proc]:
		kind = api.MLeave
	}
	pos := fold.Pos{Tick: api.Tick{Kind: kind, Proc: b.Proc, Mark: b.Mark, Depth: len(m.boxes)}, Count: len(m.Events)}
	for _, f := range m.boxes {
		g := fold.Frame{Proc: f.Proc, Mark: f.Mark}
		for _, v := range f.Vals {
			g.Vals = append(g.Vals, append([]int64(nil), v...))
		}
		pos.Frames = append(pos.Frames, g)
	}
	m.Pos = append(m.Pos, pos)
}

// history is what a right program does.
func history(p api.Prog, input []int64, fuel int) fold.History {
	m := newMachine(p)
	m.push("main", nil)
	for {
		b := m.boxes[len(m.boxes)-1]
		if fuel == 0 {
			m.event(api.EvFuel, 0)
			return m.History
		}
		fuel--
		b.Mark = b.next
		m.photograph(b)
		if b.Mark == 0 {
			b.next = 1
			continue
		}
		if b.Mark < m.last[b.Proc] {
			if !m.stmt(b, m.stops[b.Proc][b.Mark], &input) {
				return m.History
			}
			continue
		}
		m.boxes = m.boxes[:len(m.boxes)-1]
		if len(m.boxes) == 0 {
			m.event(api.EvEnd, 0)
			return m.History
		}
		if c := m.boxes[len(m.boxes)-1]; b.taker != "" {
			m.at(c, b.taker)[0] = b.answer
		}
	}
}

func (m *machine) trap(n int) bool {
	m.event(api.EvTrap, int64(n))
	return false
}

// stmt does a statement, and tells whether the run goes on.
func (m *machine) stmt(b *box, s stop, input *[]int64) bool {
	var vals []int64
	for _, x := range s.E {
		n, trap := reckon(x, m.env(b))
		if trap != 0 {
			return m.trap(trap)
		}
		vals = append(vals, n)
	}
	b.next = s.no
	switch s.Kind {
	case api.SVar:
		c := m.at(b, s.Name)
		for i := range c {
			c[i] = 0
		}
	case api.SSet:
		m.at(b, s.Name)[0] = vals[0]
	case api.SPut:
		c := m.at(b, s.Name)
		if vals[0] < 0 || vals[0] >= int64(len(c)) {
			return m.trap(api.TrapIndex)
		}
		c[vals[0]] = vals[1]
	case api.SIf, api.SWhile:
		if vals[0] == 1 {
			b.next = s.yes
		}
	case api.SCall:
		if len(m.boxes) >= 50 {
			return m.trap(api.TrapDepth)
		}
		m.push(s.Proc, vals)
		m.boxes[len(m.boxes)-1].taker = s.Name
	case api.SReturn:
		b.next = m.last[b.Proc]
		if len(vals) > 0 {
			b.answer = vals[0]
		}
	case api.SPrint:
		m.event(api.EvPrint, vals[0])
	case api.SRead:
		if len(*input) == 0 {
			return m.trap(api.TrapInput)
		}
		m.event(api.EvRead, (*input)[0])
		m.at(b, s.Name)[0] = (*input)[0]
		*input = (*input)[1:]
	case api.SAssert:
		if vals[0] == 0 {
			return m.trap(api.TrapAssert)
		}
	}
	return true
}
