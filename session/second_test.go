package session_test

import (
	"fmt"
	"slices"
	"strconv"
	"strings"

	"parallax/align"
	"parallax/api"
	"parallax/calls"
	"parallax/check"
	"parallax/decl"
	"parallax/fold"
	"parallax/gen"
	"parallax/lex"
	"parallax/session"
	"parallax/syntax"
	"parallax/view"
	"parallax/vm"
)

// A second reading of the chapter: positions are those of the histories (5), which are looked through one by one, from the end where one goes back; what a build can not tell is asked of a machine that is run anew; places of faults are found by counting tokens; lines are cut at each blank.

// half is a side.
type half struct {
	name    string
	prog    api.Prog
	info    check.Info
	past    fold.History
	build   gen.Build
	kept    []gen.Keep
	input   []int64
	fuel    int
	at      int
	breaks  []decl.Break
	watches []decl.Watch
}

// reading is a session.
type reading struct {
	session.Setup
	file   decl.File
	halves [2]*half
}

// secondOpen is a session, or its fault.
func secondOpen(x session.Setup) (*reading, session.Fault) {
	s := &reading{Setup: x}
	file, at, wrong := decl.Parse(x.Decl)
	for i, source := range []string{x.Left, x.Right} {
		h := &half{name: []string{"left", "right"}[i], input: x.Input, fuel: x.Fuel, kept: decl.Kept(file, i)}
		var f session.Fault
		if h.prog, h.info, f = secondSource(source); f.Code != api.OK {
			f.Which = 1 + i
			return nil, f
		}
		h.build, _, _ = gen.Compile(h.prog, h.kept, []bool{x.PlainLeft, x.PlainRight}[i])
		s.halves[i] = h
	}
	if wrong != api.OK {
		return nil, session.Fault{Which: 3, At: at, Code: wrong}
	}
	if spot, e := decl.Check(file, s.halves[0].prog, s.halves[1].prog); e != api.OK {
		return nil, session.Fault{Which: 3, At: lineOf(x.Decl, spot), Code: e}
	}
	s.file = file
	for i, h := range s.halves {
		for _, b := range file.Breaks {
			if b.Side == i {
				h.breaks = append(h.breaks, b)
			}
		}
		for _, w := range file.Watches {
			if w.Side == i {
				h.watches = append(h.watches, w)
			}
		}
		if h.asks(h.breaks, h.watches) {
			return nil, session.Fault{Which: 3, Code: api.ErrWatch}
		}
	}
	if x.Fuel < 0 || x.Fuel > api.MaxFuel || len(x.Input) > api.MaxInput || x.Every < 1 || x.Room < 1 {
		return nil, session.Fault{Which: 4, Code: api.ErrArg}
	}
	for _, h := range s.halves {
		h.past, _ = fold.Run(h.prog, x.Input, x.Fuel)
	}
	return s, session.Fault{}
}

// secondSource is a program of a source, or its fault.
func secondSource(source string) (api.Prog, check.Info, session.Fault) {
	p, at, e := syntax.Parse(source)
	if e != api.OK {
		return p, check.Info{}, session.Fault{At: at, Code: e}
	}
	info, place, e := check.Check(p)
	if e == api.OK {
		return p, info, session.Fault{}
	}
	// The whole program's errors stay, if nothing stands in its procedures.
	empty := api.Prog{}
	for _, q := range p.Procs {
		if q.Name != "main" {
			q.Params = nil
		} else if len(q.Params) > 1 {
			q.Params = q.Params[:1]
		}
		empty.Procs = append(empty.Procs, api.Proc{Name: q.Name, Params: q.Params, Type: q.Type, Body: []api.Stmt{{Kind: api.SAssert, E: []api.Expr{{Kind: api.EBool}}}}})
	}
	if _, _, again := check.Check(empty); again == e && e != api.ErrReturn {
		return p, info, session.Fault{Code: e}
	}
	return p, info, session.Fault{At: markOf(source, place), Code: e}
}

// markOf is where a procedure's mark stands.
func markOf(source string, place check.Place) int {
	l, _, _ := lex.Scan(source)
	var marks [][]int
	for i, x := range l {
		last := len(marks) - 1
		switch {
		case x.Text == "proc":
			marks = append(marks, []int{x.At})
		case x.Text == "}" && (l[i+1].Text == "proc" || l[i+1].Kind == api.TEnd):
			marks[last] = append(marks[last], x.At)
		case i > 0 && slices.Contains([]string{"{", "}", ";"}, l[i-1].Text) && !slices.Contains([]string{"}", "else", ""}, x.Text):
			marks[last] = append(marks[last], x.At)
		}
	}
	return marks[place.Proc][place.Mark]
}

// lineOf is where a line of declarations begins.
func lineOf(text string, spot decl.Spot) int {
	l, _, _ := lex.Scan(text)
	ahead := 0
	for i, x := range l {
		if i > 0 && l[i-1].Text != ";" || x.Text != []string{"", "pair", "same", "keep", "break", "watch"}[spot.Kind] {
			continue
		}
		if ahead == spot.Index {
			return x.At
		}
		ahead++
	}
	return -1
}

// names are those of the variables in an expression.
func names(x api.Expr) []string {
	var l []string
	if x.Kind == api.EVar || x.Kind == api.EIndex {
		l = append(l, x.Name)
	}
	for _, y := range x.L {
		l = append(l, names(y)...)
	}
	return l
}

func (h *half) number(proc string) int {
	return slices.IndexFunc(h.prog.Procs, func(p api.Proc) bool { return p.Name == proc })
}

// asks tells whether breaks and watches ask what such a build may not tell.
func (h *half) asks(breaks []decl.Break, watches []decl.Watch) bool {
	if h.build.Plain {
		return false
	}
	for _, w := range watches {
		if !slices.Contains(h.kept, gen.Keep{Proc: w.Proc, Var: w.Var}) {
			return true
		}
	}
	for _, b := range breaks {
		for _, x := range b.When {
			for _, name := range names(x) {
				v := check.Find(h.info.Vars[h.number(b.Proc)], name, int(b.Mark))
				if v >= 0 && !slices.Contains(h.kept, gen.Keep{Proc: b.Proc, Var: name}) {
					return true
				}
			}
		}
	}
	return false
}

func (h *half) end() int { return len(h.past.Pos) + 1 }

func (h *half) isTick(p int) bool { return p > 0 && p < h.end() }

// pos is what there is at a position of a tick.
func (h *half) pos(p int) fold.Pos { return h.past.Pos[p-1] }

// machine is one that is run to where the side is.
func (h *half) machine() *vm.Machine {
	m, _ := gen.Start(h.build, h.input, h.fuel)
	for range h.at {
		m.Step()
	}
	return m
}

func (h *half) where() string {
	line := fmt.Sprintf("%s %d of %d: ", h.name, h.at, h.end())
	if !h.isTick(h.at) {
		return line + map[bool]string{true: "begin", false: "over"}[h.at == 0]
	}
	x := h.pos(h.at).Tick
	name := h.prog.Procs[x.Proc].Name
	if x.Kind == api.MStmt {
		name += " " + strconv.Itoa(x.Mark)
	}
	return line + fmt.Sprintf("%s %s (depth %d)", []string{"", "enter", "at", "leave"}[x.Kind], name, x.Depth)
}

// count is how many events there are at a position.
func (h *half) count(p int) int {
	switch {
	case p == 0:
		return 0
	case p == h.end():
		return len(h.past.Events)
	}
	return h.pos(p).Count
}

// env are the values of the variables in scope at a tick.
func (h *half) env(p int) fold.Env {
	env := fold.Env{Lists: [][]int64{}}
	x := h.pos(p)
	for v, name := range h.info.Vars[x.Tick.Proc] {
		if x.Tick.Mark < name.From || x.Tick.Mark > name.To {
			continue
		}
		vals := x.Frames[len(x.Frames)-1].Vals[v]
		env.Names, env.Vals = append(env.Names, name.Name), append(env.Vals, vals[0])
		if name.Size == 0 {
			vals = nil
		}
		env.Lists = append(env.Lists, vals)
	}
	return env
}

// ahead is the tick ahead of another one in the same call; 0, if there is none.
func (h *half) ahead(p int) int {
	deep := h.pos(p).Tick.Depth
	for q := p - 1; q > 0; q-- {
		switch d := h.pos(q).Tick.Depth; {
		case d == deep:
			return q
		case d < deep:
			return 0
		}
	}
	return 0
}

// stops tells whether the side stops at a position.
func (h *half) stops(p int) bool {
	if !h.isTick(p) {
		return false
	}
	tick := h.pos(p).Tick
	proc := h.prog.Procs[tick.Proc].Name
	for _, b := range h.breaks {
		if b.Proc != proc || int(b.Mark) != tick.Mark {
			continue
		}
		if len(b.When) == 0 {
			return true
		}
		if n, trap := fold.Eval(b.When[0], h.env(p)); trap == 0 && n == 1 {
			return true
		}
	}
	q := h.ahead(p)
	if q == 0 {
		return false
	}
	now, then := h.env(p), h.env(q)
	return slices.ContainsFunc(h.watches, func(w decl.Watch) bool {
		i, k := slices.Index(now.Names, w.Var), slices.Index(then.Names, w.Var)
		return w.Proc == proc && i >= 0 && k >= 0 && now.Vals[i] != then.Vals[k]
	})
}

// to goes to the first of some positions that holds, or else to the last one of them.
func (h *half) to(l []int, holds func(p int) bool) string {
	for _, p := range l {
		h.at = p
		if holds(p) {
			break
		}
	}
	return h.where()
}

// behind and before are the positions on either side, the nearest one first.
func (h *half) behind() []int {
	var l []int
	for p := h.at + 1; p <= h.end(); p++ {
		l = append(l, p)
	}
	return l
}

func (h *half) before() []int {
	var l []int
	for p := h.at - 1; p >= 0; p-- {
		l = append(l, p)
	}
	return l
}

// within tells which positions are ticks of a Depth that is not above that at which the side is, less so much.
func (h *half) within(less int) func(int) bool {
	if !h.isTick(h.at) {
		return h.isTick
	}
	most := h.pos(h.at).Tick.Depth - less
	return func(p int) bool { return h.isTick(p) && h.pos(p).Tick.Depth <= most }
}

func mistake(e api.Errno) string { return fmt.Sprintf("error %d", e) }

func orOne(l []string) []string {
	if len(l) == 0 {
		return []string{"none"}
	}
	return l
}

// value is that of a variable of a frame.
func value(v api.Var, vals []int64) string {
	switch {
	case v.Size > 0:
		return strings.ReplaceAll(strings.ReplaceAll(fmt.Sprint(vals), "[", "[ "), "]", " ]")
	case v.Type == api.Bool:
		return strconv.FormatBool(vals[0] != 0)
	}
	return strconv.FormatInt(vals[0], 10)
}

func (h *half) stack() []string {
	var lines []string
	m := h.machine()
	for k := range m.Frames() {
		proc, mark, _, _ := m.Frame(k)
		line := fmt.Sprintf("%s %d", h.prog.Procs[proc].Name, mark)
		sign := ":"
		for v, x := range h.info.Vars[proc] {
			if mark < x.From || mark > x.To {
				continue
			}
			text := "?"
			if slices.Contains(gen.Told(h.build, m, k), v) {
				text = value(x, h.pos(h.at).Frames[k].Vals[v])
			}
			line += sign + " " + x.Name + " = " + text
			sign = ","
		}
		lines = slices.Insert(lines, 0, line)
	}
	return orOne(lines)
}

func (h *half) list(n int64) []string {
	m := h.machine()
	proc, mark, _, ok := m.Frame(m.Frames() - 1)
	if !ok {
		return []string{"none"}
	}
	if n < 0 {
		return []string{mistake(api.ErrArg)}
	}
	rows, _ := view.List(h.prog)
	var lines []string
	for i, row := range rows {
		if row.Proc != proc || row.Mark != mark || mark < 0 {
			continue
		}
		from, to := int(max(0, int64(i)-min(n, 1<<20))), int(min(int64(len(rows)-1), int64(i)+min(n, 1<<20)))
		for k := from; k <= to; k++ {
			sign := map[bool]string{true: ">", false: " "}[k == i]
			lines = append(lines, fmt.Sprintf("%s %*d %s", sign, len(strconv.Itoa(to+1)), k+1, rows[k].Text))
		}
		return lines
	}
	return []string{mistake(api.ErrPlace)}
}

func (h *half) events() []string {
	var lines []string
	for _, e := range h.past.Events[:h.count(h.at)] {
		lines = append(lines, []string{"", fmt.Sprintf("print %d", e.N), fmt.Sprintf("read %d", e.N), "end", fmt.Sprintf("trap %d", e.N), "fuel"}[e.Kind])
	}
	return orOne(lines)
}

func (h *half) eval(text string) string {
	x, _, e := syntax.Expr(text)
	if e != api.OK {
		return mistake(e)
	}
	if !h.isTick(h.at) {
		return mistake(api.ErrGone)
	}
	tick := h.pos(h.at).Tick
	kind, e := check.TypeOf(x, h.info.Vars[tick.Proc], tick.Mark)
	if e != api.OK {
		return mistake(e)
	}
	told := gen.Told(h.build, h.machine(), tick.Depth-1)
	for _, name := range names(x) {
		if !slices.Contains(told, check.Find(h.info.Vars[tick.Proc], name, tick.Mark)) {
			return mistake(api.ErrGone)
		}
	}
	n, trap := fold.Eval(x, h.env(h.at))
	if trap != 0 {
		return fmt.Sprintf("trap %d", trap)
	}
	return value(api.Var{Type: kind}, []int64{n})
}

// declares puts a break or a watch to the side.
func (s *reading) declares(h *half, word, text string) string {
	f, _, e := decl.Parse(word + " " + h.name + " " + text + " ;")
	l, _, _ := lex.Scan(text)
	switch {
	case e != api.OK:
		return mistake(e)
	case slices.ContainsFunc(l, func(x api.Token) bool { return x.Text == ";" }):
		return mistake(api.ErrLine)
	case word == "break" && len(h.breaks) == 40 || word == "watch" && len(h.watches) == 40:
		return mistake(api.ErrLong)
	}
	if _, e = decl.Check(f, s.halves[0].prog, s.halves[1].prog); e != api.OK {
		return mistake(e)
	}
	if h.asks(f.Breaks, f.Watches) {
		return mistake(api.ErrWatch)
	}
	h.breaks, h.watches = append(h.breaks, f.Breaks...), append(h.watches, f.Watches...)
	return "ok"
}

// parts is the index at which the events part, or -1.
func (s *reading) parts() int {
	a, b := s.halves[0].past.Events, s.halves[1].past.Events
	for k := range max(len(a), len(b)) {
		if k >= len(a) || k >= len(b) || a[k] != b[k] {
			return k
		}
	}
	return -1
}

func (s *reading) diverge() []string {
	if k := s.parts(); k >= 0 {
		return []string{fmt.Sprintf("event %d", k)}
	}
	return []string{"none"}
}

func (s *reading) agree() []string {
	var lines []string
	k := s.parts()
	for _, h := range s.halves {
		h.at = 0
		lines = append(lines, h.to(append([]int{0}, h.behind()...), func(p int) bool { return k >= 0 && h.count(p) >= k }))
	}
	return lines
}

func cutMark(cut bool) string { return map[bool]string{true: ", truncated"}[cut] }

func (s *reading) resync() []string {
	a, b := s.halves[0].past.Events, s.halves[1].past.Events
	pairs, cut := align.Match(a, b, s.Limit)
	lines := []string{fmt.Sprintf("pairs %d%s", len(pairs), cutMark(cut))}
	i, j := 0, 0
	for _, p := range append(pairs, align.Pair{A: len(a), B: len(b)}) {
		if p.A > i || p.B > j {
			lines = append(lines, fmt.Sprintf("left %d to %d, right %d to %d", i, p.A, j, p.B))
		}
		i, j = p.A+1, p.B+1
	}
	return lines
}

func (s *reading) report() []string {
	a, _, _ := gen.Compile(s.halves[0].prog, nil, true)
	b, _, _ := gen.Compile(s.halves[1].prog, nil, true)
	l, cut, _ := calls.Report(a, b, s.file, s.Input, s.Fuel, s.Limit)
	var lines []string
	for _, x := range l {
		what := fmt.Sprintf("same %d", x.Same)
		if x.Same < 0 {
			what = "answer"
		}
		lines = append(lines, fmt.Sprintf("left %d right %d %s: %s and %s", x.A, x.B, what, strings.Trim(fmt.Sprint(x.ValA), "[]"), strings.Trim(fmt.Sprint(x.ValB), "[]")))
	}
	return append(lines, fmt.Sprintf("entries %d%s", len(l), cutMark(cut)))
}

// do is what a line is answered.
func (s *reading) do(line string) []string {
	switch line {
	case "diverge":
		return s.diverge()
	case "agree":
		return s.agree()
	case "resync":
		return s.resync()
	case "report":
		return s.report()
	}
	words := strings.Split(line, " ")
	var lines []string
	for _, h := range s.halves {
		if len(words) > 1 && (words[1] == h.name || words[1] == "both") {
			lines = append(lines, s.onOne(h, words[0], words[1] == "both", words[2:])...)
		}
	}
	if len(lines) == 0 || lines[0] == "" {
		return []string{mistake(api.ErrLine)}
	}
	return lines
}

// onOne is what a command is answered on a side; an empty line, if it is none.
func (s *reading) onOne(h *half, word string, both bool, more []string) []string {
	rest := strings.Join(more, " ")
	n, e := strconv.ParseInt(rest, 10, 64)
	isNumber := e == nil && strconv.FormatInt(n, 10) == rest
	switch {
	case word == "eval" && len(more) > 0:
		return []string{h.eval(rest)}
	case (word == "break" || word == "watch") && rest != "" && !both:
		return []string{s.declares(h, word, rest)}
	case isNumber:
		return h.counts(word, n)
	case len(more) > 0:
		return []string{""}
	}
	switch word {
	case "where":
		return []string{h.where()}
	case "next":
		return []string{h.to(h.behind(), h.within(0))}
	case "rnext":
		return []string{h.to(h.before(), h.within(0))}
	case "finish":
		return []string{h.to(h.behind(), h.within(1))}
	case "rfinish":
		return []string{h.to(h.before(), h.within(1))}
	case "run":
		return []string{h.to(h.behind(), h.stops)}
	case "rrun":
		return []string{h.to(h.before(), h.stops)}
	case "stack":
		return h.stack()
	case "events":
		return h.events()
	case "clear":
		h.breaks, h.watches = nil, nil
		return []string{"ok"}
	}
	return []string{""}
}

// counts is what a command with a number is answered.
func (h *half) counts(word string, n int64) []string {
	switch word {
	case "step":
		return []string{h.to(h.behind()[:min(max(n, 0), int64(h.end()-h.at))], func(int) bool { return false })}
	case "back":
		return []string{h.to(h.before()[:min(max(n, 0), int64(h.at))], func(int) bool { return false })}
	case "goto":
		if n < 0 || n > int64(h.end()) {
			return []string{mistake(api.ErrPlace)}
		}
		h.at = int(n)
		return []string{h.where()}
	case "list":
		return h.list(n)
	}
	return []string{""}
}
