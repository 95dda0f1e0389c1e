package gen

import (
	"parallax/api"
	"parallax/code"
	"parallax/consts"
	"parallax/flow"
	"parallax/live"
	"parallax/peep"
)

// codes are those of a build that has all else, and whether they are sound.
func codes(b Build) ([]api.Code, bool) {
	var l []api.Code
	for i := range b.Prog.Procs {
		c := compiler{known: knownOf(b, i)}
		c.size = c.bare()
		c.whole()
		l = append(l, c.code())
	}
	if b.Plain {
		return l, code.Sound(l, b.Main)
	}
	short, e := peep.Make(l, b.Main)
	return short, e == api.OK
}

// known is what is known of a procedure that is compiled.
type known struct {
	procs []api.Proc // all of the program
	head  api.Proc
	steps []flow.Step // where the build is not plain, with numbers put in
	vars  []api.Var
	table live.Table // of the procedure as it is written
	plain bool
}

func knownOf(b Build, i int) known {
	k := known{procs: b.Prog.Procs, head: b.Prog.Procs[i], vars: b.Info.Vars[i], table: b.Tables[i], plain: b.Plain}
	if b.Plain {
		k.steps = flow.Steps(k.head)
	} else {
		k.steps = flow.Steps(consts.Apply(k.head, k.vars))
	}
	return k
}

// answers tells whether a procedure does.
func answers(p api.Proc) bool { return p.Type != api.None }

// answerCell is where what a procedure answers lies, from a return to the place where it is left: behind its variables, as at a mark nothing may be on the stack.
func answerCell(t live.Table) int { return t.Size }

// bare is how many cells there are for variables and an answer.
func (k *known) bare() int {
	if answers(k.head) {
		return answerCell(k.table) + 1
	}
	return k.table.Size
}

// lasts tells whether a variable that a statement sets can be told behind it. If not, nobody needs it, and others may lie in its cells already.
func (k *known) lasts(v int, s flow.Step) bool {
	return v >= 0 && (k.plain || k.table.At[s.Yes][v])
}
