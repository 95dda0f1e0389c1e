package live_test

import (
	"slices"

	"parallax/api"
	"parallax/live"
)

// A second reading of the chapter, for tests against many procedures: statements that know where they stand, ways that are gone one by one, cells that are tried one by one.

// entry is a statement and where it stands: the mark of the one around it (0: none), in which of that one's blocks, at which place.
type entry struct {
	api.Stmt
	around, block, place int
}

// entries are a procedure's statements; that of the mark m is the (m - 1)-th one.
func entries(p api.Proc) []entry {
	var all []entry
	var enter func(l []api.Stmt, around, block int)
	enter = func(l []api.Stmt, around, block int) {
		for i, s := range l {
			all = append(all, entry{s, around, block, i})
			mark := len(all)
			enter(s.Body, mark, 1)
			enter(s.Else, mark, 2)
		}
	}
	enter(p.Body, 0, 1)
	return all
}

// at is the mark of the statement that stands there, or 0.
func at(all []entry, around, block, place int) int {
	for i, e := range all {
		if e.around == around && e.block == block && e.place == place {
			return i + 1
		}
	}
	return 0
}

// behind is what comes behind a statement.
func behind(all []entry, mark int) int {
	e := all[mark-1]
	if next := at(all, e.around, e.block, e.place+1); next > 0 {
		return next
	}
	switch {
	case e.around == 0:
		return len(all) + 1
	case all[e.around-1].Kind == api.SWhile:
		return e.around
	}
	return behind(all, e.around)
}

// nexts is what comes next of a mark.
func nexts(all []entry, mark int) []int {
	if mark == 0 {
		return []int{1}
	}
	if mark > len(all) {
		return nil
	}
	var l []int
	orElse := func(first, other int) {
		if first == 0 {
			first = other
		}
		l = append(l, first)
	}
	switch all[mark-1].Kind {
	case api.SReturn:
		return []int{len(all) + 1}
	case api.SIf:
		orElse(at(all, mark, 1, 0), behind(all, mark))
		orElse(at(all, mark, 2, 0), behind(all, mark))
	case api.SWhile:
		orElse(at(all, mark, 1, 0), mark)
		l = append(l, behind(all, mark))
	default:
		l = append(l, behind(all, mark))
	}
	slices.Sort(l)
	return slices.Compact(l)
}

// mentions tells whether a name stands in expressions.
func mentions(l []api.Expr, name string) bool {
	return slices.ContainsFunc(l, func(x api.Expr) bool {
		return (x.Kind == api.EVar || x.Kind == api.EIndex) && x.Name == name || mentions(x.L, name)
	})
}

// reads and sets tell of a variable of a right procedure, in which no two have one name.
func reads(s api.Stmt, v api.Var) bool {
	return mentions(s.E, v.Name) || s.Kind == api.SPut && s.Name == v.Name
}

func sets(s api.Stmt, v api.Var) bool {
	return slices.Contains([]int{api.SVar, api.SSet, api.SRead, api.SCall}, s.Kind) && s.Name == v.Name
}

// isNeeded goes all ways from a mark on till the variable is read or set.
func isNeeded(all []entry, v api.Var, mark int) bool {
	been := make([]bool, len(all)+2)
	var reaches func(mark int) bool
	reaches = func(mark int) bool {
		if been[mark] {
			return false
		}
		been[mark] = true
		if mark >= 1 && mark <= len(all) {
			if reads(all[mark-1].Stmt, v) {
				return true
			}
			if sets(all[mark-1].Stmt, v) {
				return false
			}
		}
		return slices.ContainsFunc(nexts(all, mark), reaches)
	}
	return reaches(mark)
}

// table is what can be told, and the cells.
func table(p api.Proc, vars []api.Var, kept []string, plain bool) live.Table {
	var t live.Table
	all := entries(p)
	for mark := range len(all) + 2 {
		here, over := make([]bool, len(vars)), make([]bool, len(vars))
		for i, v := range vars {
			in := v.From <= mark && mark <= v.To
			always := plain || slices.Contains(kept, v.Name)
			here[i] = in && (always || isNeeded(all, v, mark))
			if mark >= 1 && mark <= len(all) && all[mark-1].Kind == api.SCall {
				over[i] = in && (always || isNeeded(all, v, nexts(all, mark)[0]) && !sets(all[mark-1].Stmt, v))
			}
		}
		t.At, t.Over = append(t.At, here), append(t.Over, over)
	}
	var lies [][]int // the cells of each one
	for i, v := range vars {
		lies = append(lies, lie(t, lies, v, i, len(p.Params), plain))
		t.Cells = append(t.Cells, lies[i][0])
		t.Size = max(t.Size, slices.Max(lies[i])+1)
	}
	return t
}

// lie are the cells of a variable, those ahead of it lying already.
func lie(t live.Table, lies [][]int, v api.Var, i, params int, plain bool) []int {
	if i < params {
		return []int{i}
	}
	for from := 0; ; from++ {
		var l []int
		free := true
		for cell := from; cell < from+max(v.Size, 1); cell++ {
			l = append(l, cell)
			for j := range lies {
				free = free && !((plain || meet(t, i, j)) && slices.Contains(lies[j], cell))
			}
		}
		if free {
			return l
		}
	}
}

// meet tells whether two can be told at once.
func meet(t live.Table, i, j int) bool {
	both := func(row []bool) bool { return row[i] && row[j] }
	return slices.ContainsFunc(t.At, both) || slices.ContainsFunc(t.Over, both)
}
