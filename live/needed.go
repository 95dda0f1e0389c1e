package live

import (
	"parallax/api"
	"parallax/flow"
)

// use is what the statement of a mark reads and sets.
type use struct {
	reads set
	sets  int
}

func usesOf(steps []flow.Step, vars []api.Var) []use {
	l := make([]use, len(steps))
	for mark, s := range steps {
		for _, i := range Reads(s.Stmt, vars, mark) {
			l[mark].reads.put(i)
		}
		l[mark].sets = Sets(s.Stmt, vars, mark)
	}
	return l
}

// aheadOf are, of each mark, those of which it comes next.
func aheadOf(steps []flow.Step) [][]int {
	l := make([][]int, len(steps))
	for mark, s := range steps {
		for _, next := range s.Next() {
			l[next] = append(l[next], mark)
		}
	}
	return l
}

// needed is what is needed at each mark. Marks wait to be looked at, the last one first, as what is needed grows from behind; those ahead of one at which it has grown wait anew.
func needed(steps []flow.Step, vars []api.Var) []set {
	uses, ahead := usesOf(steps, vars), aheadOf(steps)
	sets := make([]set, len(steps))
	var waiting []int
	for mark := range steps {
		waiting = append(waiting, mark)
	}
grow:
	for len(waiting) > 0 {
		mark := waiting[len(waiting)-1]
		waiting = waiting[:len(waiting)-1]
		var grown set
		for _, next := range steps[mark].Next() {
			grown.join(sets[next])
		}
		grown.drop(uses[mark].sets)
		grown.join(uses[mark].reads)
		if grown == sets[mark] {
			continue grow
		}
		sets[mark] = grown
		waiting = append(waiting, ahead[mark]...)
	}
	return sets
}
