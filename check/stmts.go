package check

import (
	"slices"

	"parallax/api"
)

// checker checks a program. Its procedure and its mark are how far it has come, and so where it gives up.
type checker struct {
	scope
	procs []api.Proc
	at    int // the procedure's number
	info  Info
}

func (c *checker) prog() {
	c.whole()
	for i, p := range c.procs {
		c.at = i
		c.proc(p)
	}
}

// whole asks what is asked of the program as a whole.
func (c *checker) whole() {
	must(len(c.procs) <= api.MaxProcs, api.ErrLong)
	var names []string
	for _, p := range c.procs {
		names = append(names, p.Name)
	}
	must(unlike(names), api.ErrName)
	i := slices.Index(names, "main")
	must(i >= 0 && len(c.procs[i].Params) == 0 && c.procs[i].Type == api.None, api.ErrMain)
}

// unlike tells whether no two names are the same.
func unlike(names []string) bool {
	for i, name := range names {
		if slices.Contains(names[:i], name) {
			return false
		}
	}
	return true
}

func (c *checker) proc(p api.Proc) {
	c.vars, c.mark = variables(p), 0
	c.declarations(p)
	c.block(p.Body)
	c.info.Vars = append(c.info.Vars, c.vars)
	c.info.Marks = append(c.info.Marks, c.mark)
	c.mark++
	must(p.Type == api.None || returns(p.Body), api.ErrReturn)
}

// declarations asks what is asked of a procedure's variables as a whole.
func (c *checker) declarations(p api.Proc) {
	must(len(p.Params) <= api.MaxParams && len(c.vars) <= api.MaxVars, api.ErrLong)
	var names []string
	for _, v := range c.vars {
		names = append(names, v.Name)
	}
	must(unlike(names), api.ErrName)
}

// returns tells whether each way through statements returns.
func returns(l []api.Stmt) bool {
	for _, s := range l {
		if s.Kind == api.SReturn {
			return true
		}
		if s.Kind == api.SIf && returns(s.Body) && returns(s.Else) {
			return true
		}
	}
	return false
}

// block checks statements in order of marks.
func (c *checker) block(l []api.Stmt) {
	for _, s := range l {
		c.mark++
		c.stmt(s)
		c.block(s.Body)
		c.block(s.Else)
	}
}

// stmt checks a statement, but for those in its blocks, which have marks of their own.
func (c *checker) stmt(s api.Stmt) {
	must(formed(s), api.ErrForm)
	switch s.Kind {
	case api.SVar:
		must(s.Num <= api.MaxSize, api.ErrLong)
	case api.SSet:
		c.typed(s.E[0], c.single(s.Name))
	case api.SPut:
		c.array(s.Name)
		c.typed(s.E[0], api.Int)
		c.typed(s.E[1], api.Int)
	case api.SIf, api.SWhile, api.SAssert:
		c.typed(s.E[0], api.Bool)
	case api.SPrint:
		c.typeOf(s.E[0])
	case api.SRead:
		must(c.single(s.Name) == api.Int, api.ErrType)
	case api.SCall:
		c.call(s)
	case api.SReturn:
		c.answer(s)
	}
}

// formed tells whether a statement is of a kind, with as many expressions as it has, no block that it has not, and a number that a var can have.
func formed(s api.Stmt) bool {
	switch s.Kind {
	case api.SIf:
		return len(s.E) == 1
	case api.SWhile:
		return len(s.E) == 1 && len(s.Else) == 0
	}
	return len(s.Body) == 0 && len(s.Else) == 0 && plainFormed(s)
}

// plainFormed is formed of a statement of a kind without blocks.
func plainFormed(s api.Stmt) bool {
	switch s.Kind {
	case api.SVar:
		return len(s.E) == 0 && s.Num >= -1
	case api.SRead:
		return len(s.E) == 0
	case api.SSet, api.SPrint, api.SAssert:
		return len(s.E) == 1
	case api.SPut:
		return len(s.E) == 2
	case api.SReturn:
		return len(s.E) <= 1
	}
	return s.Kind == api.SCall
}

func (c *checker) call(s api.Stmt) {
	p := c.called(s.Proc)
	must(len(s.E) == len(p.Params), api.ErrType)
	for i, x := range s.E {
		c.typed(x, p.Params[i].Type)
	}
	if s.Name != "" {
		must(c.single(s.Name) == p.Type, api.ErrType)
	}
}

// called is the procedure of a name.
func (c *checker) called(name string) api.Proc {
	for _, p := range c.procs {
		if p.Name == name {
			return p
		}
	}
	panic(api.ErrName)
}

// answer checks a return.
func (c *checker) answer(s api.Stmt) {
	t := c.procs[c.at].Type
	must((len(s.E) == 1) == (t != api.None), api.ErrType)
	for _, x := range s.E {
		c.typed(x, t)
	}
}
