package consts_test

import (
	"math/big"
	"slices"

	"parallax/api"
	"parallax/check"
	"parallax/consts"
	"parallax/fold"
	"parallax/live"
)

// A second reading of the chapter, for tests against many procedures: traps that panic, numbers that are there or nil, all marks reckoned anew from all others until nothing changes.

// trapped is what an expression that traps panics with.
type trapped struct{}

// facts are the numbers that are known, by the variables' numbers.
type facts map[int]int64

// sight is where an expression stands, and what is known there.
type sight struct {
	vars []api.Var
	mark int
	facts
}

func (s sight) find(name string) int {
	for i, v := range s.vars {
		if v.Name == name && v.From <= s.mark && s.mark <= v.To {
			return i
		}
	}
	return -1
}

// says is an expression's number, or nil of nothing.
func (s sight) says(x api.Expr) *int64 {
	switch {
	case x.Kind == api.EInt && len(x.L) == 0, x.Kind == api.EBool && len(x.L) == 0 && (x.Num == 0 || x.Num == 1):
		return &x.Num
	case x.Kind == api.EVar && len(x.L) == 0:
		if n, ok := s.facts[s.find(x.Name)]; ok {
			return &n
		}
	case x.Kind == api.EIndex && len(x.L) == 1:
		n := s.says(x.L[0])
		s.bound(x.Name, n)
	case x.Kind == api.EUn && len(x.L) == 1 && (x.Name == "-" || x.Name == "!"):
		if n := s.says(x.L[0]); n != nil {
			return around(x.Name, big.NewInt(*n), big.NewInt(0))
		}
	case x.Kind == api.EBin && len(x.L) == 2 && (x.Name == "&&" || x.Name == "||"):
		a := s.says(x.L[0])
		if a == nil {
			return nil
		}
		if *a != 0 && x.Name == "||" || *a == 0 && x.Name == "&&" {
			return around("!=", big.NewInt(*a), big.NewInt(0))
		}
		if b := s.says(x.L[1]); b != nil {
			return around("!=", big.NewInt(*b), big.NewInt(0))
		}
	case x.Kind == api.EBin && len(x.L) == 2 && slices.Contains([]string{"+", "-", "*", "/", "%", "==", "!=", "<", "<="}, x.Name):
		a, b := s.says(x.L[0]), s.says(x.L[1])
		if b != nil && *b == 0 && (x.Name == "/" || x.Name == "%") {
			panic(trapped{})
		}
		if a != nil && b != nil {
			return around(x.Name+"2", big.NewInt(*a), big.NewInt(*b))
		}
	}
	return nil
}

// bound traps, if a number is no place of an array.
func (s sight) bound(name string, n *int64) {
	if i := s.find(name); i >= 0 && n != nil && !(0 <= *n && *n < int64(s.vars[i].Size)) {
		panic(trapped{})
	}
}

// around is what a sign makes of numbers, begun anew; with a 2 behind it stands between two.
func around(sign string, a, b *big.Int) *int64 {
	whether := map[string]bool{"!": a.Sign() == 0, "!=": a.Cmp(b) != 0, "!=2": a.Cmp(b) != 0, "==2": a.Cmp(b) == 0, "<2": a.Cmp(b) < 0, "<=2": a.Cmp(b) <= 0}
	n := new(big.Int)
	switch sign {
	case "-":
		n.Neg(a)
	case "+2":
		n.Add(a, b)
	case "-2":
		n.Sub(a, b)
	case "*2":
		n.Mul(a, b)
	case "/2":
		n.Quo(a, b)
	case "%2":
		n.Rem(a, b)
	default:
		if whether[sign] {
			n.SetInt64(1)
		}
	}
	m := int64(n.And(n, new(big.Int).SetUint64(1<<64-1)).Uint64())
	return &m
}

// answer is an expression's, as a text.
func (s sight) answer(x api.Expr) (text string) {
	defer func() {
		if r := recover(); r != nil {
			_ = r.(trapped)
			text = "!"
		}
	}()
	if n := s.says(x); n != nil {
		return told(*n, 1)
	}
	return "?"
}

// leads are the marks to which an if or a while leads, if its expression holds and if not.
func leads(p api.Proc, s api.Stmt, mark int) (int, int) {
	l := live.Next(p, mark)
	if len(l) == 1 {
		return l[0], l[0]
	}
	other := func(one int) int { return l[0] + l[1] - one }
	switch {
	case len(s.Body) > 0:
		return mark + 1, other(mark + 1)
	case s.Kind == api.SWhile:
		return mark, other(mark)
	}
	return other(mark + 1), mark + 1 // the one block there is stands behind else
}

// behind is what is known behind a statement, and which marks it reaches.
func behind(p api.Proc, vars []api.Var, mark int, known facts) (after facts, reached []int) {
	s, _ := check.Stmt(p, mark)
	here := sight{vars, mark, known}
	after = facts{}
	for i, n := range known {
		after[i] = n
	}
	defer func() {
		if r := recover(); r != nil {
			_ = r.(trapped)
			reached = nil
		}
	}()
	var said []*int64
	for _, x := range s.E {
		said = append(said, here.says(x))
	}
	i := slices.IndexFunc(vars, func(v api.Var) bool { return v.Name == s.Name && v.Size == 0 })
	switch s.Kind {
	case api.SVar, api.SSet, api.SRead, api.SCall:
		delete(after, i)
	}
	reached = live.Next(p, mark)
	switch {
	case s.Kind == api.SVar && i >= 0:
		after[i] = 0
	case s.Kind == api.SSet && said[0] != nil:
		after[i] = *said[0]
	case s.Kind == api.SPut:
		here.bound(s.Name, said[0])
	case s.Kind == api.SAssert && said[0] != nil && *said[0] == 0:
		reached = nil
	case (s.Kind == api.SIf || s.Kind == api.SWhile) && said[0] != nil:
		yes, no := leads(p, s, mark)
		reached = []int{no}
		if *said[0] == 1 {
			reached = []int{yes}
		}
	}
	return after, reached
}

// known is what is known at each mark of a right procedure; nil of one that is not reached.
func known(p api.Proc, vars []api.Var) []facts {
	first := facts{}
	for i, v := range vars {
		if i >= len(p.Params) && v.Size == 0 {
			first[i] = 0
		}
	}
	now := make([]facts, check.Count(p)+2)
	for {
		next := make([]facts, len(now))
		next[0] = first
		for mark, f := range now {
			if f == nil {
				continue
			}
			after, reached := behind(p, vars, mark, f)
			for _, to := range reached {
				next[to] = met(next[to], after)
			}
		}
		if slices.EqualFunc(now, next, alike) {
			return now
		}
		now = next
	}
}

// met is what is known where two ways meet.
func met(a, b facts) facts {
	both := facts{}
	for i, n := range b {
		if m, ok := a[i]; a == nil || ok && m == n {
			both[i] = n
		}
	}
	return both
}

func alike(a, b facts) bool {
	if (a == nil) != (b == nil) || len(a) != len(b) {
		return false
	}
	for i, n := range a {
		if m, ok := b[i]; !ok || m != n {
			return false
		}
	}
	return true
}

// stated are facts as they are answered.
func stated(f facts, vars []api.Var) consts.State {
	s := consts.State{Reached: f != nil, Known: make([]bool, len(vars)), Nums: make([]int64, len(vars))}
	for i, n := range f {
		s.Known[i], s.Nums[i] = true, n
	}
	return s
}

// filled is an expression with the numbers in the places of names, not folded.
func (s sight) filled(x api.Expr) api.Expr {
	if n, ok := s.facts[s.find(x.Name)]; ok && x.Kind == api.EVar {
		if s.vars[s.find(x.Name)].Type == api.Bool {
			return truth(n)
		}
		return fold.Lit(n)
	}
	var l []api.Expr
	for _, y := range x.L {
		l = append(l, s.filled(y))
	}
	x.L = l
	return x
}
