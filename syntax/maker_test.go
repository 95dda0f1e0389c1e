package syntax_test

import (
	"math"
	"math/rand/v2"
	"strings"

	"parallax/api"
)

// maker makes programs that are right, but for depths; the same in each run.
type maker struct {
	*rand.Rand
}

func makes(seed uint64) maker { return maker{rand.New(rand.NewPCG(seed, 3))} }

func pick[T any](m maker, l ...T) T { return l[m.IntN(len(l))] }

func (m maker) name() string {
	return pick(m, "x", "y", "main", "f", "a_1", "proc1", "Int", strings.Repeat("n", 40))
}

func (m maker) whole() int64 {
	return pick(m, 0, 1, 2, 9, 10, 64, 65, int64(m.Uint32()), math.MaxInt64, math.MaxInt64-1)
}

// leaf is an expression without parts.
func (m maker) leaf() api.Expr {
	switch m.IntN(4) {
	case 0:
		return api.Expr{Kind: api.EInt, Num: m.whole()}
	case 1:
		return api.Expr{Kind: api.EBool, Num: int64(m.IntN(2))}
	}
	return api.Expr{Kind: api.EVar, Name: m.name()}
}

func (m maker) sign() string {
	return pick(m, "||", "&&", "==", "!=", "<", "<=", "+", "-", "*", "/", "%")
}

// around is an expression with x in it, one nearer to it than all others.
func (m maker) around(x api.Expr, size int) api.Expr {
	switch m.IntN(6) {
	case 0:
		return api.Expr{Kind: api.EIndex, Name: m.name(), L: []api.Expr{x}}
	case 1, 2:
		return api.Expr{Kind: api.EUn, Name: pick(m, "-", "!"), L: []api.Expr{x}}
	case 3:
		return api.Expr{Kind: api.EBin, Name: m.sign(), L: []api.Expr{m.expr(size), x}}
	}
	return api.Expr{Kind: api.EBin, Name: m.sign(), L: []api.Expr{x, m.expr(size)}}
}

// expr is an expression in which at most so many stand in one another.
func (m maker) expr(size int) api.Expr {
	x := m.leaf()
	for size > 0 && m.IntN(4) > 0 {
		size--
		x = m.around(x, size/2)
	}
	return x
}

func (m maker) exprs(n, size int) []api.Expr {
	var l []api.Expr
	for range n {
		l = append(l, m.expr(size))
	}
	return l
}

// simple is a statement without a block.
func (m maker) simple(size int) api.Stmt {
	switch m.IntN(9) {
	case 0:
		return api.Stmt{Kind: api.SVar, Name: m.name(), Num: pick[int64](m, -1, 0, 1, 64, 65, math.MaxInt64)}
	case 1:
		return api.Stmt{Kind: api.SSet, Name: m.name(), E: m.exprs(1, size)}
	case 2:
		return api.Stmt{Kind: api.SPut, Name: m.name(), E: m.exprs(2, size)}
	case 3:
		return api.Stmt{Kind: api.SCall, Proc: m.name(), E: m.exprs(m.IntN(4), size)}
	case 4:
		return api.Stmt{Kind: api.SCall, Name: m.name(), Proc: m.name(), E: m.exprs(m.IntN(4), size)}
	case 5:
		return api.Stmt{Kind: api.SReturn, E: m.exprs(m.IntN(2), size)}
	case 6:
		return api.Stmt{Kind: api.SRead, Name: m.name()}
	case 7:
		return api.Stmt{Kind: api.SAssert, E: m.exprs(1, size)}
	}
	return api.Stmt{Kind: api.SPrint, E: m.exprs(1, size)}
}

func (m maker) block(size int) []api.Stmt {
	var l []api.Stmt
	for range m.IntN(3) {
		l = append(l, m.stmt(size))
	}
	return l
}

func (m maker) stmt(size int) api.Stmt {
	if size > 0 {
		switch m.IntN(5) {
		case 0:
			return api.Stmt{Kind: api.SIf, E: m.exprs(1, size), Body: m.block(size - 1), Else: m.block(size - 1)}
		case 1:
			return api.Stmt{Kind: api.SWhile, E: m.exprs(1, size), Body: m.block(size - 1)}
		}
	}
	return m.simple(size)
}

func (m maker) params() []api.Param {
	var l []api.Param
	for range m.IntN(4) {
		l = append(l, api.Param{Name: m.name(), Type: pick(m, api.Int, api.Bool)})
	}
	return l
}

func (m maker) proc(body []api.Stmt) api.Proc {
	return api.Proc{Name: m.name(), Params: m.params(), Type: pick(m, api.None, api.Int, api.Bool), Body: body}
}

func (m maker) prog(size int) api.Prog {
	var p api.Prog
	for range m.IntN(4) {
		p.Procs = append(p.Procs, m.proc(m.block(size)))
	}
	return p
}

// deepExpr is an expression in which just so many stand in one another.
func (m maker) deepExpr(size int) api.Expr {
	x := m.leaf()
	for range size {
		x = m.around(x, 0)
	}
	return x
}

// deep is a program with so many blocks in one another, and an expression so deep among them.
func (m maker) deep(blocks, size int) api.Prog {
	l := []api.Stmt{m.simple(0), {Kind: api.SPrint, E: []api.Expr{m.deepExpr(size)}}, m.simple(1)}
	for range blocks {
		s := api.Stmt{Kind: api.SIf, E: []api.Expr{m.leaf()}}
		switch m.IntN(3) {
		case 0:
			s.Body = l
		case 1:
			s.Else = l
		case 2:
			s.Kind, s.Body = api.SWhile, l
		}
		l = []api.Stmt{s}
	}
	return api.Prog{Procs: []api.Proc{m.proc(nil), m.proc(l)}}
}
