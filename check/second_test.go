package check_test

import (
	"parallax/api"
	"parallax/check"
)

// A second reading of the chapter, held against the first one on programs by chance: scopes are told by the blocks that statements stand in, and what is asked of a statement is a row of questions.

// step says which block, and at which place in it.
type step struct{ block, place int }

// entry is a statement with the blocks on the way to it, outermost first.
type entry struct {
	s   api.Stmt
	way []step
}

// entries are a procedure's statements in order of marks; the one of the mark 1 first.
func entries(p api.Proc) []entry {
	var all []entry
	blocks := 0
	var enter func(l []api.Stmt, way []step)
	enter = func(l []api.Stmt, way []step) {
		blocks++
		block := blocks
		for i, s := range l {
			here := append(append([]step(nil), way...), step{block, i})
			all = append(all, entry{s, here})
			enter(s.Body, here)
			enter(s.Else, here)
		}
	}
	enter(p.Body, nil)
	return all
}

// within tells whether a statement stands in the block of another one, or in a block of one there.
func within(x, declared entry) (int, bool) {
	at := len(declared.way) - 1
	if len(x.way) <= at || x.way[at].block != declared.way[at].block {
		return 0, false
	}
	return x.way[at].place, true
}

// sees tells whether what one statement declares is in scope at another one.
func sees(x, declared entry) bool {
	place, ok := within(x, declared)
	return ok && place > declared.way[len(declared.way)-1].place
}

// varOf is the variable that a statement declares, but for marks.
func varOf(s api.Stmt) api.Var {
	v := api.Var{Name: s.Name, Type: api.Int, Size: int(s.Num)}
	if s.Num == -1 {
		v.Type, v.Size = api.Bool, 0
	}
	return v
}

// varsOf are a procedure's variables.
func varsOf(p api.Proc) []api.Var {
	all := entries(p)
	var vars []api.Var
	for _, x := range p.Params {
		vars = append(vars, api.Var{Name: x.Name, Type: x.Type, To: len(all) + 1})
	}
	for i, d := range all {
		if d.s.Kind != api.SVar {
			continue
		}
		v := varOf(d.s)
		v.From = i + 2
		for j, x := range all {
			if _, ok := within(x, d); ok {
				v.To = j + 1
			}
		}
		vars = append(vars, v)
	}
	return vars
}

// looker finds the variable of a name.
type looker func(name string) (api.Var, bool)

// looks is a looker at a statement.
func looks(p api.Proc, all []entry, at entry) looker {
	return func(name string) (api.Var, bool) {
		for _, x := range p.Params {
			if x.Name == name {
				return api.Var{Name: name, Type: x.Type}, true
			}
		}
		for _, d := range all {
			if d.s.Kind == api.SVar && d.s.Name == name && sees(at, d) {
				return varOf(d.s), true
			}
		}
		return api.Var{}, false
	}
}

// rule is what a sign asks of what stands beside it, and its type.
type rule struct{ left, right, whole int }

var binary = map[string][]rule{
	"+": {{1, 1, 1}}, "-": {{1, 1, 1}}, "*": {{1, 1, 1}}, "/": {{1, 1, 1}}, "%": {{1, 1, 1}},
	"<": {{1, 1, 2}}, "<=": {{1, 1, 2}},
	"&&": {{2, 2, 2}}, "||": {{2, 2, 2}},
}

var unary = map[string][]rule{"-": {{1, 0, 1}}, "!": {{2, 0, 2}}}

var parts = map[int]int{api.EInt: 0, api.EBool: 0, api.EVar: 0, api.EIndex: 1, api.EUn: 1, api.EBin: 2}

func typeOf(x api.Expr, look looker) (int, api.Errno) {
	n, ok := parts[x.Kind]
	if !ok || n != len(x.L) || x.Kind == api.EInt && x.Num < 0 || x.Kind == api.EBool && x.Num != 0 && x.Num != 1 {
		return 0, api.ErrForm
	}
	v, found := look(x.Name)
	if named := x.Kind == api.EVar || x.Kind == api.EIndex; named && !found {
		return 0, api.ErrName
	}
	if x.Kind == api.EVar && v.Size > 0 || x.Kind == api.EIndex && v.Size <= 0 {
		return 0, api.ErrType
	}
	types := [2]int{}
	for i, y := range x.L {
		t, e := typeOf(y, look)
		if e != api.OK {
			return 0, e
		}
		types[i] = t
	}
	switch x.Kind {
	case api.EInt:
		return api.Int, api.OK
	case api.EBool:
		return api.Bool, api.OK
	case api.EVar:
		return v.Type, api.OK
	case api.EIndex:
		return ruled([]rule{{1, 0, 1}}, types)
	case api.EUn:
		return ruled(unary[x.Name], types)
	}
	if x.Name == "==" || x.Name == "!=" {
		return ruled([]rule{{types[0], types[0], 2}}, types)
	}
	return ruled(binary[x.Name], types)
}

// ruled is the type that the first rule that fits gives.
func ruled(l []rule, types [2]int) (int, api.Errno) {
	for _, r := range l {
		if types == [2]int{r.left, r.right} {
			return r.whole, api.OK
		}
	}
	if len(l) == 0 {
		return 0, api.ErrForm
	}
	return 0, api.ErrType
}

// question answers an error.
type question func() api.Errno

func asks(ok bool, e api.Errno) question {
	return func() api.Errno {
		if ok {
			return api.OK
		}
		return e
	}
}

// is asks that an expression is of a type (of any, if that is below 0).
func is(look looker, x api.Expr, t int) question {
	return func() api.Errno {
		got, e := typeOf(x, look)
		if e == api.OK && t >= 0 && got != t {
			return api.ErrType
		}
		return e
	}
}

// first is the first error of questions.
func first(l ...question) api.Errno {
	for _, q := range l {
		if e := q(); e != api.OK {
			return e
		}
	}
	return api.OK
}

// lengths are how many expressions each kind of statement has.
var lengths = map[int][]int{
	api.SVar: {0}, api.SSet: {1}, api.SPut: {2}, api.SIf: {1}, api.SWhile: {1},
	api.SReturn: {0, 1}, api.SPrint: {1}, api.SRead: {0}, api.SAssert: {1},
}

func formFits(s api.Stmt) bool {
	fits := s.Kind == api.SCall
	for _, n := range lengths[s.Kind] {
		fits = fits || len(s.E) == n
	}
	if s.Kind != api.SIf && len(s.Else) > 0 || s.Kind != api.SIf && s.Kind != api.SWhile && len(s.Body) > 0 {
		return false
	}
	return fits && (s.Kind != api.SVar || s.Num >= -1)
}

// wrong is what is wrong with a statement of a procedure.
func wrong(p api.Prog, in api.Proc, s api.Stmt, look looker) api.Errno {
	if !formFits(s) {
		return api.ErrForm
	}
	v, found := look(s.Name)
	named := asks(found, api.ErrName)
	single := asks(v.Size <= 0, api.ErrType)
	switch s.Kind {
	case api.SVar:
		return first(asks(s.Num <= api.MaxSize, api.ErrLong))
	case api.SSet:
		return first(named, single, is(look, s.E[0], v.Type))
	case api.SPut:
		return first(named, asks(v.Size > 0, api.ErrType), is(look, s.E[0], api.Int), is(look, s.E[1], api.Int))
	case api.SPrint:
		return first(is(look, s.E[0], -1))
	case api.SRead:
		return first(named, single, asks(v.Type == api.Int, api.ErrType))
	case api.SReturn:
		l := []question{asks(len(s.E) == 0 == (in.Type == api.None), api.ErrType)}
		for _, x := range s.E {
			l = append(l, is(look, x, in.Type))
		}
		return first(l...)
	case api.SCall:
		l := callQuestions(p, s, look)
		for _, q := range p.Procs {
			if q.Name == s.Proc && s.Name != "" {
				l = append(l, named, single, asks(v.Type == q.Type, api.ErrType))
			}
		}
		return first(l...)
	}
	return first(is(look, s.E[0], api.Bool))
}

func callQuestions(p api.Prog, s api.Stmt, look looker) []question {
	for _, q := range p.Procs {
		if q.Name != s.Proc {
			continue
		}
		l := []question{asks(len(s.E) == len(q.Params), api.ErrType)}
		for i := range min(len(s.E), len(q.Params)) {
			l = append(l, is(look, s.E[i], q.Params[i].Type))
		}
		return l
	}
	return []question{asks(false, api.ErrName)}
}

// falls tells whether there is a way through statements without a return.
func falls(l []api.Stmt) bool {
	for _, s := range l {
		switch {
		case s.Kind == api.SReturn:
			return false
		case s.Kind == api.SIf && !falls(s.Body) && !falls(s.Else):
			return false
		}
	}
	return true
}

// repeats tells whether a name stands twice.
func repeats(names []string) bool {
	seen := map[string]int{}
	for _, name := range names {
		seen[name]++
	}
	return len(seen) < len(names)
}

// wholeError is what is wrong with a program as a whole.
func wholeError(p api.Prog) api.Errno {
	var names []string
	fit := false
	for _, q := range p.Procs {
		names = append(names, q.Name)
		fit = fit || q.Name == "main" && len(q.Params) == 0 && q.Type == api.None
	}
	return first(asks(len(p.Procs) <= api.MaxProcs, api.ErrLong), asks(!repeats(names), api.ErrName), asks(fit, api.ErrMain))
}

// procError is the first mark of a procedure at which something is wrong, and what.
func procError(p api.Prog, q api.Proc, vars []api.Var) (int, api.Errno) {
	var names []string
	for _, v := range vars {
		names = append(names, v.Name)
	}
	short := len(q.Params) <= api.MaxParams && len(vars) <= api.MaxVars
	if e := first(asks(short, api.ErrLong), asks(!repeats(names), api.ErrName)); e != api.OK {
		return 0, e
	}
	all := entries(q)
	for i, x := range all {
		if e := wrong(p, q, x.s, looks(q, all, x)); e != api.OK {
			return i + 1, e
		}
	}
	if q.Type != api.None && falls(q.Body) {
		return len(all) + 1, api.ErrReturn
	}
	return 0, api.OK
}

// checks is Check, read a second time.
func checks(p api.Prog) (check.Info, check.Place, api.Errno) {
	if e := wholeError(p); e != api.OK {
		return check.Info{}, check.Place{}, e
	}
	var info check.Info
	for i, q := range p.Procs {
		vars := varsOf(q)
		if mark, e := procError(p, q, vars); e != api.OK {
			return check.Info{}, check.Place{Proc: i, Mark: mark}, e
		}
		info.Vars = append(info.Vars, vars)
		info.Marks = append(info.Marks, len(entries(q)))
	}
	return info, check.Place{}, api.OK
}
