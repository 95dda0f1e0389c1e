package decl_test

import (
	"slices"
	"strconv"

	"parallax/api"
	"parallax/check"
	"parallax/decl"
	"parallax/gen"
	"parallax/lex"
	"parallax/syntax"
)

// A second reading of the chapter, held against the first one on texts, files and programs by chance: lines are told by patterns, of which the one that goes farthest says what is wrong; what is asked of items is a row of questions about tables of names.

// patterns of lines: N a name, S a side, I an integer, E an expression; all else is meant as it stands.
var patterns = [][]string{
	{"pair", "N", "N", ";"},
	{"same", "N", "(", "N", ")", "N", "(", "N", ")", ";"},
	{"keep", "S", "N", "N", ";"},
	{"break", "S", "N", "I", ";"},
	{"break", "S", "N", "I", "when", "E", ";"},
	{"watch", "S", "N", "N", ";"},
}

// kindOf is the kind of a pattern's lines, from 0 on.
var kindOf = []int{0, 1, 2, 3, 3, 4}

// matched is how a pattern fits a row of tokens from one on: what it says, and the token behind it; or the place at which it does not.
type matched struct {
	said []string
	when []api.Expr
	next int
	at   int
	e    api.Errno
}

func match(pattern []string, row []api.Token, from int) matched {
	m := matched{next: from}
	for _, p := range pattern {
		t := row[m.next]
		fits := false
		switch p {
		case "N":
			fits = t.Kind == api.TName
		case "S":
			fits = t.Kind == api.TName && (t.Text == "left" || t.Text == "right")
		case "I":
			fits = t.Kind == api.TInt
			t.Text = strconv.FormatInt(t.Num, 10)
		case "E":
			x, next, at, e := syntax.ReadExpr(row, m.next)
			if e != api.OK {
				m.at, m.e = at, e
				return m
			}
			m.when, m.next = []api.Expr{x}, next
			continue
		default:
			fits = (t.Kind == api.TName || t.Kind == api.TSign) && t.Text == p
		}
		if !fits {
			m.at, m.e = t.At, api.ErrSyntax
			return m
		}
		if p == "N" || p == "S" || p == "I" {
			m.said = append(m.said, t.Text)
		}
		m.next++
	}
	return m
}

// parse is Parse and Places by the second reading.
func parse(s string) (f decl.File, places [5][]int, at int, e api.Errno) {
	row, at, e := lex.Scan(s)
	if e != api.OK {
		return decl.File{}, places, at, e
	}
	long := -1
	var said decl.File
	var seen [5][]int
	for next := 0; row[next].Kind != api.TEnd; {
		var best matched
		best.at = -1
		for i, p := range patterns {
			m := match(p, row, next)
			if m.e == api.OK {
				tell(&said, kindOf[i], m)
				seen[kindOf[i]] = append(seen[kindOf[i]], row[next].At)
				if len(seen[kindOf[i]]) == 41 && long < 0 {
					long = row[next].At
				}
				best = m
				break
			}
			if m.at > best.at {
				best = m
			}
		}
		if best.e != api.OK {
			return decl.File{}, places, best.at, best.e
		}
		next = best.next
	}
	if long >= 0 {
		return decl.File{}, places, long, api.ErrLong
	}
	return said, seen, 0, api.OK
}

func sideOf(word string) int { return map[string]int{"left": 0, "right": 1}[word] }

// tell puts a line to a file.
func tell(f *decl.File, kind int, m matched) {
	w := m.said
	switch kind {
	case 0:
		f.Pairs = append(f.Pairs, api.Pair{ProcA: w[0], ProcB: w[1]})
	case 1:
		f.Sames = append(f.Sames, api.Pair{ProcA: w[0], VarA: w[1], ProcB: w[2], VarB: w[3]})
	case 2:
		f.Keeps = append(f.Keeps, decl.Keep{Side: sideOf(w[0]), Proc: w[1], Var: w[2]})
	case 3:
		mark, _ := strconv.ParseInt(w[2], 10, 64)
		f.Breaks = append(f.Breaks, decl.Break{Side: sideOf(w[0]), Proc: w[1], Mark: mark, When: m.when})
	case 4:
		f.Watches = append(f.Watches, decl.Watch{Side: sideOf(w[0]), Proc: w[1], Var: w[2]})
	}
}

// table is what is known of a program's procedures, by their names.
type table map[string]struct {
	vars  map[string]api.Var
	all   []api.Var
	marks int
}

func tableOf(p api.Prog, info check.Info) table {
	t := table{}
	for i, q := range p.Procs {
		x := t[q.Name]
		x.vars, x.all, x.marks = map[string]api.Var{}, info.Vars[i], info.Marks[i]
		for _, v := range info.Vars[i] {
			x.vars[v.Name] = v
		}
		t[q.Name] = x
	}
	return t
}

func (t table) proc(name string) bool { _, ok := t[name]; return ok }

func (t table) has(proc, name string) bool { _, ok := t[proc].vars[name]; return ok }

// fitting is Check by the second reading: of each item the first question that is answered by yes.
func fitting(f decl.File, left, right api.Prog) (decl.Spot, api.Errno) {
	var l [2]table
	for i, p := range []api.Prog{left, right} {
		info, at, e := check.Check(p)
		if e != api.OK {
			return decl.Spot{Kind: 6 + i, Index: at.Proc}, e
		}
		l[i] = tableOf(p, info)
	}
	type question struct {
		wrong bool
		e     api.Errno
	}
	var items [][]question
	var spots []decl.Spot
	ask := func(kind, index int, q ...question) {
		items, spots = append(items, q), append(spots, decl.Spot{Kind: kind, Index: index})
	}
	used := [2]map[string]int{{}, {}}
	partner := map[[2]string]int{}
	for i, p := range f.Pairs {
		ask(1, i, question{!l[0].proc(p.ProcA) || !l[1].proc(p.ProcB), api.ErrName},
			question{used[0][p.ProcA]+used[1][p.ProcB] > 0, api.ErrPair})
		used[0][p.ProcA]++
		used[1][p.ProcB]++
		partner[[2]string{p.ProcA, p.ProcB}]++
	}
	for i, s := range f.Sames {
		x, y := l[0][s.ProcA].vars[s.VarA], l[1][s.ProcB].vars[s.VarB]
		ask(2, i, question{!l[0].proc(s.ProcA) || !l[1].proc(s.ProcB), api.ErrName},
			question{partner[[2]string{s.ProcA, s.ProcB}] == 0, api.ErrPair},
			question{!l[0].has(s.ProcA, s.VarA) || !l[1].has(s.ProcB, s.VarB), api.ErrName},
			question{[2]int{x.Type, x.Size} != [2]int{y.Type, y.Size}, api.ErrType})
	}
	for i, k := range f.Keeps {
		ask(3, i, question{!l[k.Side].has(k.Proc, k.Var), api.ErrName})
	}
	for i, b := range f.Breaks {
		p := l[b.Side][b.Proc]
		var kind int
		e := api.OK
		if len(b.When) == 1 && b.Mark >= 0 && b.Mark <= 1<<20 {
			kind, e = check.TypeOf(b.When[0], p.all, int(b.Mark))
		}
		ask(4, i, question{!l[b.Side].proc(b.Proc), api.ErrName}, question{b.Mark < 0 || b.Mark > int64(p.marks+1), api.ErrPlace},
			question{e != api.OK, e}, question{len(b.When) == 1 && kind != api.Bool, api.ErrType})
	}
	for i, w := range f.Watches {
		ask(5, i, question{!l[w.Side].has(w.Proc, w.Var), api.ErrName}, question{l[w.Side][w.Proc].vars[w.Var].Size != 0, api.ErrType})
	}
	for i, q := range items {
		if k := slices.IndexFunc(q, func(q question) bool { return q.wrong }); k >= 0 {
			return spots[i], q[k].e
		}
	}
	return decl.Spot{}, api.OK
}

// keptOn is Kept by the second reading.
func keptOn(f decl.File, side int) []gen.Keep {
	var l []gen.Keep
	for _, s := range f.Sames {
		l = append(l, []gen.Keep{{Proc: s.ProcA, Var: s.VarA}, {Proc: s.ProcB, Var: s.VarB}}[side])
	}
	for _, k := range f.Keeps {
		if k.Side == side {
			l = append(l, gen.Keep{Proc: k.Proc, Var: k.Var})
		}
	}
	var once []gen.Keep
	for i, k := range l {
		if slices.Index(l, k) == i {
			once = append(once, k)
		}
	}
	return once
}

// clear is Clear by the second reading: the names are those that stand in the expression's text.
func clearOf(f decl.File, side int, p api.Prog) api.Errno {
	kept := keptOn(f, side)
	for _, w := range f.Watches {
		if w.Side == side && !slices.Contains(kept, gen.Keep{Proc: w.Proc, Var: w.Var}) {
			return api.ErrWatch
		}
	}
	info, _, e := check.Check(p)
	if e != api.OK {
		return api.OK
	}
	t := tableOf(p, info)
	for _, b := range f.Breaks {
		for _, x := range b.When {
			text, _ := syntax.PrintExpr(x)
			row, _, _ := lex.Scan(text)
			for _, token := range row { // a bent program may have a name that is empty, as the end's text is
				v, ok := t[b.Proc].vars[token.Text]
				inScope := ok && token.Kind == api.TName && int64(v.From) <= b.Mark && b.Mark <= int64(v.To)
				if b.Side == side && inScope && !slices.Contains(kept, gen.Keep{Proc: b.Proc, Var: token.Text}) {
					return api.ErrWatch
				}
			}
		}
	}
	return api.OK
}
