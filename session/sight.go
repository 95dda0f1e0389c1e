package session

import (
	"slices"

	"parallax/api"
	"parallax/check"
	"parallax/fold"
	"parallax/gen"
	"parallax/num"
	"parallax/syntax"
	"parallax/vm"
)

// sight is what can be seen of one of a machine's frames.
type sight struct {
	build      *gen.Build
	machine    *vm.Machine
	frame      int
	proc, mark int
	told       fold.Env // the values that were asked for
}

// inside is the sight of the last frame of a machine at a tick.
func (x *side) inside(m *vm.Machine, tick api.Tick) *sight {
	return &sight{build: &x.build, machine: m, frame: tick.Depth - 1, proc: tick.Proc, mark: tick.Mark}
}

// outside is the sight of another frame.
func (x *side) outside(m *vm.Machine, frame int) *sight {
	proc, mark, _, _ := m.Frame(frame)
	return &sight{build: &x.build, machine: m, frame: frame, proc: proc, mark: mark}
}

func (s *sight) vars() []api.Var { return s.build.Info.Vars[s.proc] }

// value is that of the variable of a name: ErrName, if none is in scope, ErrGone, if it can not be told.
func (s *sight) value(name string) ([]int64, api.Errno) {
	v := check.Find(s.vars(), name, s.mark)
	if v < 0 {
		return nil, api.ErrName
	}
	return gen.Value(*s.build, s.machine, s.frame, v)
}

// differs tells whether a variable has a value here and another one there.
func (s *sight) differs(there *sight, name string) bool {
	a, e := s.value(name)
	b, f := there.value(name)
	return e == api.OK && f == api.OK && !slices.Equal(a, b)
}

// holds tells whether what a break asks is so.
func (s *sight) holds(when []api.Expr) bool {
	for _, x := range when {
		if n, trap, e := s.worth(x); n != 1 || trap != 0 || e != api.OK {
			return false
		}
	}
	return true
}

// worth is what an expression that fits is worth, or its trap; ErrGone, if it names what can not be told, whether that plays a part or not.
func (s *sight) worth(x api.Expr) (int64, int, api.Errno) {
	if e := s.ask(x); e != api.OK {
		return 0, 0, e
	}
	n, trap := fold.Eval(x, s.told)
	return n, trap, api.OK
}

// ask asks for the values of the variables that an expression names.
func (s *sight) ask(x api.Expr) api.Errno {
	named := x.Kind == api.EVar || x.Kind == api.EIndex
	if named && !slices.Contains(s.told.Names, x.Name) {
		l, e := s.value(x.Name)
		if e != api.OK {
			return e
		}
		s.put(x, l)
	}
	for _, part := range x.L {
		if e := s.ask(part); e != api.OK {
			return e
		}
	}
	return api.OK
}

// put puts down the value of what an expression names: an array's, if that is indexed.
func (s *sight) put(x api.Expr, l []int64) {
	n := l[0]
	if x.Kind == api.EVar {
		l = nil
	}
	s.told.Names = append(s.told.Names, x.Name)
	s.told.Vals = append(s.told.Vals, n)
	s.told.Lists = append(s.told.Lists, l)
}

// eval is what an expression is worth where the side is.
func (x *side) eval(text string) []string {
	read, _, e := syntax.Expr(text)
	if e != api.OK {
		return failed(e)
	}
	tick, ok := x.tick()
	if !ok {
		return failed(api.ErrGone)
	}
	s := x.inside(x.Machine(), tick)
	t, e := check.TypeOf(read, s.vars(), s.mark)
	if e != api.OK {
		return failed(e)
	}
	n, trap, e := s.worth(read)
	if e != api.OK {
		return failed(e)
	}
	return []string{written(t, n, trap)}
}

// written is the text of what is worth a number of a type, or traps.
func written(t int, n int64, trap int) string {
	switch {
	case trap != 0:
		return num.Join("trap", num.Text(int64(trap)))
	case t == api.Int:
		return num.Text(n)
	case n == 0:
		return "false"
	}
	return "true"
}
