package gen

import (
	"slices"

	"parallax/api"
	"parallax/live"
	"parallax/vm"
)

// sight is what can be seen of a frame. A build and a machine that do not belong together are handed in like others, so that nothing here trusts one to fit the other.
type sight struct {
	head  api.Proc
	vars  []api.Var
	marks int // how many statements the procedure has
	mark  int
	table live.Table
	told  [][]bool // of each mark, of each variable
	cells []int64
	ended bool // the machine has
}

// look is what can be seen of a frame, if there is one.
func look(b Build, m *vm.Machine, frame int) (sight, bool) {
	proc, mark, cells, ok := m.Frame(frame)
	if !ok || proc >= min(len(b.Prog.Procs), len(b.Info.Vars), len(b.Info.Marks), len(b.Tables)) {
		return sight{}, false
	}
	s := sight{
		head: b.Prog.Procs[proc], vars: b.Info.Vars[proc], marks: b.Info.Marks[proc], mark: mark,
		table: b.Tables[proc], cells: cells, ended: m.Ended(),
	}
	s.told = s.table.Over
	if frame == m.Frames()-1 {
		s.told = s.table.At
	}
	return s, true
}

// value is that of a variable, if it can be told.
func (s sight) value(v int) ([]int64, bool) {
	if !s.tells(v) || v >= len(s.table.Cells) {
		return nil, false
	}
	return s.lying(s.table.Cells[v], max(s.vars[v].Size, 1))
}

// tells tells whether a variable can be told. Ahead of the first tick the frame has no mark.
func (s sight) tells(v int) bool {
	return !s.ended && 0 <= s.mark && s.mark < len(s.told) && v < len(s.told[s.mark]) && s.told[s.mark][v]
}

// lying is what lies in so many cells, from the first one on.
func (s sight) lying(first, size int) ([]int64, bool) {
	if first < 0 || first > len(s.cells)-size {
		return nil, false
	}
	return slices.Clone(s.cells[first : first+size]), true
}

// answer is what the procedure answers, if it is leaving and answers at all.
func (s sight) answer() (int64, bool) {
	if s.ended || s.mark-1 != s.marks || !answers(s.head) {
		return 0, false
	}
	l, ok := s.lying(answerCell(s.table), 1)
	if !ok {
		return 0, false
	}
	return l[0], true
}
