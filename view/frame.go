package view

import (
	"parallax/api"
	"parallax/gen"
	"parallax/num"
	"parallax/vm"
)

// Kinds of values, by how they are written.
const (
	digits = iota
	truth
	list
)

func kindOf(v api.Var) int {
	switch {
	case v.Size > 0:
		return list
	case v.Type == api.Bool:
		return truth
	}
	return digits
}

// frame is a procedure that was begun and not left, as far as its machine is.
type frame struct {
	name  string
	mark  int
	vars  []api.Var
	value func(v int) ([]int64, api.Errno)
}

// look is a frame of a machine, if there is one. Of a machine of another build it may be of a procedure that there is not.
func look(b gen.Build, m *vm.Machine, k int) (frame, bool) {
	proc, mark, _, ok := m.Frame(k)
	if !ok || proc >= min(len(b.Prog.Procs), len(b.Info.Vars)) {
		return frame{}, false
	}
	value := func(v int) ([]int64, api.Errno) { return gen.Value(b, m, k, v) }
	return frame{b.Prog.Procs[proc].Name, mark, b.Info.Vars[proc], value}, true
}

func (f frame) line() string {
	line := num.Join(f.name, num.Text(int64(f.mark)))
	behind := ":"
	for i, v := range f.vars {
		if v.From <= f.mark && f.mark <= v.To {
			line = num.Join(line+behind, v.Name, "=", f.text(i))
			behind = ","
		}
	}
	return line
}

// text is that of a variable's value.
func (f frame) text(v int) string {
	l, e := f.value(v)
	if e != api.OK {
		return "?"
	}
	switch kindOf(f.vars[v]) {
	case list:
		return listed(l)
	case truth:
		return truthWord(l[0])
	}
	return num.Text(l[0])
}

// listed is the text of an array's elements.
func listed(l []int64) string {
	words := []string{"["}
	for _, n := range l {
		words = append(words, num.Text(n))
	}
	return num.Join(append(words, "]")...)
}

func truthWord(n int64) string {
	if n == 0 {
		return "false"
	}
	return "true"
}
