package vm_test

import (
	"math"
	"reflect"
	"runtime"
	"slices"
	"strconv"
	"strings"
	"testing"

	"parallax/api"
	"parallax/code"
	"parallax/vm"
)

const (
	least = math.MinInt64
	most  = math.MaxInt64
)

// coded is a code of lines with a comma between any two.
func coded(t *testing.T, s string, cells, params int) api.Code {
	t.Helper()
	c := api.Code{Cells: cells, Params: params}
	for _, line := range strings.Split(s, ", ") {
		i, e := code.Parse(line)
		if e != api.OK {
			t.Fatalf("Parse(%q): %d", line, e)
		}
		c.Ins = append(c.Ins, i)
		c.Answers = c.Answers || line == "leave 1"
	}
	return c
}

// started is a machine, main being the first code.
func started(t *testing.T, input []int64, fuel int, l ...api.Code) *vm.Machine {
	t.Helper()
	m, e := vm.New(l, 0, input, fuel)
	if e != api.OK || m == nil {
		t.Fatalf("New: %d", e)
	}
	return m
}

// single is a machine of one code with ten cells.
func single(t *testing.T, s string, input ...int64) *vm.Machine {
	t.Helper()
	return started(t, input, 99, coded(t, s, 10, 0))
}

// events are those of a machine, in words.
func events(m *vm.Machine) string {
	var s []string
	for _, e := range m.Events() {
		x := []string{"?", "print", "read", "end", "trap", "fuel"}[e.Kind]
		if e.Kind <= api.EvRead || e.Kind == api.EvTrap {
			x += " " + strconv.FormatInt(e.N, 10)
		} else if e.N != 0 {
			x += "?"
		}
		s = append(s, x)
	}
	return strings.Join(s, ", ")
}

// shown is all that can be seen of a machine but its events.
func shown(m *vm.Machine) string {
	s := strconv.Itoa(m.Ticks())
	if tick, ok := m.Tick(); ok {
		s += " [" + strconv.Itoa(tick.Kind) + " " + strconv.Itoa(tick.Proc) + "." + strconv.Itoa(tick.Mark) + " deep " + strconv.Itoa(tick.Depth) + "]"
	}
	for k := range m.Frames() {
		proc, mark, cells, ok := m.Frame(k)
		s += " " + strconv.Itoa(proc) + "." + strconv.Itoa(mark)
		if !ok {
			s += "?"
		}
		for _, n := range cells {
			s += " " + strconv.FormatInt(n, 10)
		}
		s += ";"
	}
	if m.Ended() {
		s += " ended"
	}
	if m.Count() != len(m.Events()) {
		s += " ?"
	}
	return s
}

// ends runs a machine to its end, and asks for its events.
func ends(t *testing.T, m *vm.Machine, want string) {
	t.Helper()
	for m.Step() {
	}
	if got := events(m); got != want || !m.Ended() {
		t.Errorf("%q; want %q", got, want)
	}
}

// steps asks what is seen of a machine at first, and behind each step.
func steps(t *testing.T, m *vm.Machine, rows ...string) {
	t.Helper()
	got := []string{shown(m)}
	for m.Step() {
		got = append(got, shown(m))
	}
	got = append(got, shown(m))
	if !slices.Equal(got, rows) {
		t.Errorf("\n%s\nwant\n%s", strings.Join(got, "\n"), strings.Join(rows, "\n"))
	}
}

func TestExample(t *testing.T) { // P9.2
	const s = "mark 0 1, push 5, print, mark 1 3, leave 0"
	m := started(t, nil, 9, coded(t, s, 0, 0))
	steps(t, m, "0 0.-1;", "1 [1 0.0 deep 1] 0.0;", "2 [3 0.1 deep 1] 0.1;", "2 [3 0.1 deep 1] ended")
	ends(t, m, "print 5, end")
	m = started(t, nil, 1, coded(t, s, 0, 0))
	steps(t, m, "0 0.-1;", "1 [1 0.0 deep 1] 0.0;", "1 [1 0.0 deep 1] 0.0; ended")
	ends(t, m, "print 5, fuel")
	m = started(t, nil, 0, coded(t, s, 0, 0))
	steps(t, m, "0 0.-1;", "0 0.-1; ended")
	ends(t, m, "fuel")
}

func TestTwo(t *testing.T) { // P9.2: what operations make of two numbers, a below b on the stack
	for s, rows := range map[string][][3]int64{
		"add":  {{2, 3, 5}, {most, 1, least}, {-5, 2, -3}},
		"sub":  {{2, 3, -1}, {3, 2, 1}, {least, 1, most}},
		"mul":  {{2, 3, 6}, {1 << 62, 2, least}, {-4, 3, -12}},
		"div":  {{7, 2, 3}, {-7, 2, -3}, {2, 7, 0}, {least, -1, least}, {0, 5, 0}},
		"mod":  {{7, 2, 1}, {-7, 2, -1}, {2, 7, 2}, {least, -1, 0}, {7, -2, 1}},
		"less": {{2, 3, 1}, {3, 2, 0}, {3, 3, 0}, {least, most, 1}, {most, least, 0}},
		"most": {{2, 3, 1}, {3, 2, 0}, {3, 3, 1}, {least, most, 1}, {most, least, 0}},
		"same": {{2, 3, 0}, {3, 2, 0}, {3, 3, 1}, {least, most, 0}, {least, least, 1}},
	} {
		for _, r := range rows {
			line := "push " + strconv.FormatInt(r[0], 10) + ", push " + strconv.FormatInt(r[1], 10) + ", " + s + ", print, leave 0"
			ends(t, single(t, line), "print "+strconv.FormatInt(r[2], 10)+", end")
		}
	}
	for _, a := range []string{"0", "7", "-9223372036854775808"} {
		ends(t, single(t, "push "+a+", push 0, div, print, leave 0"), "trap 1")
		ends(t, single(t, "push "+a+", push 0, mod, print, leave 0"), "trap 1")
	}
}

func TestOne(t *testing.T) { // P9.2: each other operation by itself
	for s, want := range map[string]string{
		"push 0, not, print, leave 0":                                 "print 1, end",
		"push 1, not, print, leave 0":                                 "print 0, end",
		"push -9223372036854775808, not, print, leave 0":              "print 0, end",
		"push 5, neg, print, leave 0":                                 "print -5, end",
		"push -9223372036854775808, neg, print, leave 0":              "print -9223372036854775808, end",
		"push 1, push 2, push 3, print, print, print, leave 0":        "print 3, print 2, print 1, end",
		"push 1, push 2, drop, print, leave 0":                        "print 1, end",
		"load 4, print, leave 0":                                      "print 0, end",
		"push 7, store 4, load 4, print, load 3, print, leave 0":      "print 7, print 0, end",
		"jump 2, jump 4, push 1, print, leave 0":                      "print 1, end",
		"push 0, zero 4, push 1, print, leave 0":                      "end",
		"push 2, zero 4, push 1, print, leave 0":                      "print 1, end",
		"push -1, zero 4, push 1, print, leave 0":                     "print 1, end",
		"push 0, test, leave 0":                                       "trap 3",
		"push 1, test, leave 0":                                       "end",
		"push -1, test, leave 0":                                      "end",
		"read, read, print, print, leave 0":                           "read 8, read -9, print -9, print 8, end",
		"read, drop, read, drop, read, drop, leave 0":                 "read 8, read -9, trap 5",
		"push 6, print, push 0, test, push 7, print, leave 0":         "print 6, trap 3",
		"push 6, print, push 1, push 0, div, print, leave 0":          "print 6, trap 1",
		"push 1, push 0, zero 5, drop, jump 6, print, leave 0":        "print 1, end",
		"push 2, push 3, push 4, sub, sub, print, leave 0":            "print 3, end",
		"push 9, store 9, clear 8 2, load 9, print, leave 0":          "print 0, end",
		"push 9, store 9, clear 8 1, load 9, print, leave 0":          "print 9, end",
		"push 9, store 0, clear 1 9, load 0, print, leave 0":          "print 9, end",
		"push 3, store 2, push 2, index 0 3, print, leave 0":          "print 3, end",
		"push 3, store 2, push 0, index 2 3, print, leave 0":          "print 3, end",
		"push 3, index 0 3, print, leave 0":                           "trap 2",
		"push -1, index 1 3, print, leave 0":                          "trap 2",
		"push 9223372036854775807, index 9 1, print, leave 0":         "trap 2",
		"push -9223372036854775808, index 9 1, print, leave 0":        "trap 2",
		"push 2, push 5, put 3 3, load 5, print, leave 0":             "print 5, end",
		"push 0, push 5, put 3 3, load 3, print, leave 0":             "print 5, end",
		"push 3, push 5, put 3 3, load 6, print, leave 0":             "trap 2",
		"push -1, push 5, put 3 3, load 2, print, leave 0":            "trap 2",
		"push 0, push 5, put 9 1, load 9, print, leave 0":             "print 5, end",
		"push 5, push 0, put 0 3, leave 0":                            "trap 2",
		"push 1, push 4, push 2, index 0 3, add, add, print, leave 0": "print 5, end",
	} {
		ends(t, single(t, s, 8, -9), want)
	}
}

func TestCells(t *testing.T) { // P9.3
	m := started(t, nil, 9, coded(t, "push 4, store 1, mark 0 1, push 1, push 7, put 1 2, mark 3 2, clear 0 2, mark 2 2, leave 0", 3, 0))
	steps(t, m, "0 0.-1 0 0 0;", "1 [1 0.0 deep 1] 0.0 0 4 0;", "2 [2 0.3 deep 1] 0.3 0 4 7;", "3 [2 0.2 deep 1] 0.2 0 0 7;", "3 [2 0.2 deep 1] ended")
}

func TestCalls(t *testing.T) { // P9.2, P9.3: what is handed over, answered, and which frames there are
	m := started(t, nil, 99,
		coded(t, "mark 0 1, push 9, push 5, push 6, push 7, call 1 3, sub, print, mark 1 3, leave 0", 1, 0),
		coded(t, "mark 0 1, push 8, store 3, mark 1 2, push 4, call 2 1, mark 2 3, load 0, load 1, sub, load 2, sub, leave 1", 4, 3),
		coded(t, "mark 4 1, push 3, store 0, load 1, store 1, mark 5 3, leave 0", 2, 1))
	steps(t, m, "0 0.-1 0;", "1 [1 0.0 deep 1] 0.0 0;",
		"2 [1 1.0 deep 2] 0.0 0; 1.0 5 6 7 0;", "3 [2 1.1 deep 2] 0.0 0; 1.1 5 6 7 8;",
		"4 [1 2.4 deep 3] 0.0 0; 1.1 5 6 7 8; 2.4 4 0;", "5 [3 2.5 deep 3] 0.0 0; 1.1 5 6 7 8; 2.5 3 0;",
		"6 [3 1.2 deep 2] 0.0 0; 1.2 5 6 7 8;", "7 [3 0.1 deep 1] 0.1 0;", "7 [3 0.1 deep 1] ended")
	ends(t, m, "print 17, end")
}

func TestCellsAreEmpty(t *testing.T) { // P9.2: a frame's cells are 0 at first, whatever stood where they are
	m := started(t, nil, 99,
		coded(t, "push 1, call 1 1, call 2 0, push 2, call 1 1, leave 0", 1, 0),
		coded(t, "mark 0 1, push 7, store 1, push 7, store 0, push 7, store 2, mark 1 2, leave 0", 3, 1),
		coded(t, "mark 0 1, call 3 0, leave 0", 1, 0),
		coded(t, "mark 0 1, leave 0", 4, 0))
	steps(t, m, "0 0.-1 0;",
		"1 [1 1.0 deep 2] 0.-1 0; 1.0 1 0 0;", "2 [2 1.1 deep 2] 0.-1 0; 1.1 7 7 7;",
		"3 [1 2.0 deep 2] 0.-1 0; 2.0 0;", "4 [1 3.0 deep 3] 0.-1 0; 2.0 0; 3.0 0 0 0 0;",
		"5 [1 1.0 deep 2] 0.-1 0; 1.0 2 0 0;", "6 [2 1.1 deep 2] 0.-1 0; 1.1 7 7 7;", "6 [2 1.1 deep 2] ended")
}

func TestMainIsNot0(t *testing.T) { // P9.1, P9.2
	l := []api.Code{coded(t, "mark 5 2, load 0, leave 1", 1, 1), coded(t, "mark 6 2, push 3, call 0 1, print, leave 0", 0, 0)}
	m, e := vm.New(l, 1, nil, 9)
	if e != api.OK {
		t.Fatal(e)
	}
	steps(t, m, "0 1.-1;", "1 [2 1.6 deep 1] 1.6;", "2 [2 0.5 deep 2] 1.6; 0.5 3;", "2 [2 0.5 deep 2] ended")
	ends(t, m, "print 3, end")
}

func TestDepth(t *testing.T) { // P9.2: MaxDepth frames, and no more
	m := started(t, nil, 999, coded(t, "mark 0 1, call 0 0, leave 0", 0, 0))
	for k := 1; k <= 50; k++ {
		ticked := m.Step()
		if tick, _ := m.Tick(); !ticked || m.Frames() != k || tick.Depth != k {
			t.Fatalf("step %d: %s", k, shown(m))
		}
	}
	ends(t, m, "trap 4")
	if m.Frames() != 50 || m.Ticks() != 50 {
		t.Errorf("%s", shown(m))
	}
	// 49 calls and back again
	m = started(t, nil, 999,
		coded(t, "push 49, call 1 1, print, leave 0", 0, 0),
		coded(t, "load 0, push 1, sub, store 0, load 0, zero 10, load 0, call 1 1, push 1, jump 12, push 1, leave 1, add, leave 1", 1, 1))
	ends(t, m, "print 49, end")
	m = started(t, nil, 999,
		coded(t, "push 50, call 1 1, print, leave 0", 0, 0),
		coded(t, "load 0, push 1, sub, store 0, load 0, zero 10, load 0, call 1 1, push 1, jump 12, push 1, leave 1, add, leave 1", 1, 1))
	ends(t, m, "trap 4")
	if _, mark, cells, ok := m.Frame(49); !ok || mark != -1 || !slices.Equal(cells, []int64{1}) {
		t.Errorf("%d, %v", mark, cells)
	}
}

func TestFramesStay(t *testing.T) { // P9.3: when a machine ends its frames stay, but for a leave
	for s, want := range map[string]string{
		"mark 3 1, push 6, store 0, push 0, test, leave 0":                 "1 [1 1.3 deep 2] 0.-1 5 0; 1.3 6 0; ended",
		"mark 3 1, push 6, store 1, read, drop, leave 0":                   "1 [1 1.3 deep 2] 0.-1 5 0; 1.3 5 6; ended",
		"push 6, store 1, push 2, index 0 2, drop, leave 0":                "0 0.-1 5 0; 1.-1 5 6; ended",
		"mark 3 1, push 2, push 7, put 0 2, leave 0":                       "1 [1 1.3 deep 2] 0.-1 5 0; 1.3 5 0; ended",
		"mark 3 1, push 2, push 0, mod, store 0, leave 0":                  "1 [1 1.3 deep 2] 0.-1 5 0; 1.3 5 0; ended",
		"mark 1 1, mark 2 2, mark 3 2, push 1, store 0, mark 4 2, leave 0": "3 [2 1.3 deep 2] 0.-1 5 0; 1.3 1 0; ended",
		"mark 3 1, push 6, store 0, leave 0":                               "1 [1 1.3 deep 2] ended",
		"jump 0":                                                           "0 0.-1 5 0; 1.-1 5 0; ended",
	} {
		m := started(t, nil, 3, coded(t, "push 5, store 0, push 5, call 1 1, leave 0", 2, 0), coded(t, s, 2, 1))
		for m.Step() {
		}
		if got := shown(m); got != want {
			t.Errorf("%s: %s; want %s", s, got, want)
		}
	}
}

func TestNoSuchFrame(t *testing.T) { // P9.3
	m := started(t, nil, 9, coded(t, "mark 7 1, push 3, store 0, mark 8 2, leave 0", 1, 0))
	ask := func(frames int) {
		t.Helper()
		for _, k := range []int{least, -1, frames, frames + 1, most} {
			if proc, mark, cells, ok := m.Frame(k); proc != 0 || mark != 0 || len(cells) > 0 || ok {
				t.Errorf("frame %d of %d: %d, %d, %v, %v", k, frames, proc, mark, cells, ok)
			}
		}
	}
	ask(1)
	for m.Step() {
		ask(1)
	}
	ask(0)
}

func TestNewErrors(t *testing.T) { // P9.1
	good := []api.Code{coded(t, "mark 0 1, leave 0", 0, 0)}
	bad := []api.Code{coded(t, "add, leave 0", 0, 0)}
	for _, x := range []struct {
		l    []api.Code
		main int
		size int
		fuel int
		want api.Errno
	}{
		{good, 0, 0, 0, api.OK}, {good, 0, 1000, 1 << 20, api.OK}, {good, 0, 0, -1, api.ErrArg}, {good, 0, 0, 1<<20 + 1, api.ErrArg}, {good, 0, 1001, 5, api.ErrArg},
		{good, 0, 0, least, api.ErrArg}, {good, 0, 0, most, api.ErrArg}, {good, 0, 5000, -1, api.ErrArg},
		{good, 1, 0, 5, api.ErrCode}, {good, -1, 0, 5, api.ErrCode}, {good, most, 0, 5, api.ErrCode}, {good, least, 0, 5, api.ErrCode},
		{bad, 0, 0, 5, api.ErrCode}, {bad, 0, 1001, -1, api.ErrCode}, {nil, 0, 0, 5, api.ErrCode}, {nil, 0, 1001, 5, api.ErrCode}, {append(good[:1:1], bad...), 0, 0, 5, api.ErrCode},
	} {
		m, e := vm.New(x.l, x.main, make([]int64, x.size), x.fuel)
		if e != x.want || (m == nil) != (e != api.OK) {
			t.Errorf("New(%v, %d, %d numbers, %d) = %d; want %d", x.l, x.main, x.size, x.fuel, e, x.want)
		}
	}
}

func TestNil(t *testing.T) { // P9.4
	var m *vm.Machine
	tick, ticked := m.Tick()
	if m.Step() || m.Ended() || m.Ticks() != 0 || tick != (api.Tick{}) || ticked || len(m.Events()) > 0 || m.Count() != 0 || m.Frames() != 0 || m.Copy() != nil {
		t.Error("a nil machine")
	}
	for _, k := range []int{-1, 0, 1, least, most} {
		if proc, mark, cells, ok := m.Frame(k); proc != 0 || mark != 0 || len(cells) > 0 || ok {
			t.Errorf("frame %d of a nil machine", k)
		}
	}
}

func TestZeroMachine(t *testing.T) { // P1: a machine that New did not make
	var m vm.Machine
	c := m.Copy()
	if m.Step() || c.Step() || m.Ticks() != 0 || m.Count() != 0 || m.Frames() != 0 || len(m.Events()) > 0 {
		t.Error(shown(&m))
	}
	if _, _, _, ok := m.Frame(0); ok {
		t.Error("a frame")
	}
	if tick, ok := m.Tick(); ok || tick != (api.Tick{}) {
		t.Error(tick)
	}
	m.Ended()
}

func TestGreatest(t *testing.T) { // P9.2, P9.3: as many cells, as great marks and as high a stack as there may be
	var b strings.Builder
	b.WriteString("mark 9223372036854775807 1, ")
	for k := range 4096 {
		b.WriteString("push " + strconv.Itoa(k) + ", ")
	}
	b.WriteString(strings.Repeat("add, ", 4095) + "store 65535, mark 2 2, call 0 0, leave 0")
	m := started(t, nil, 99, coded(t, b.String(), 1<<16, 0))
	for m.Step() {
		_, mark, cells, _ := m.Frame(m.Frames() - 1)
		if len(cells) != 1<<16 || (cells[65535] == 4095*4096/2) != (mark == 2) || mark != most && mark != 2 {
			t.Fatalf("%d, %d cells, %d", mark, len(cells), cells[65535])
		}
	}
	if events(m) != "fuel" || m.Frames() != 50 || m.Ticks() != 99 {
		t.Errorf("%s, %d frames", events(m), m.Frames())
	}
}

func TestCellsGo(t *testing.T) { // what a frame had goes with it, and is not kept
	m := started(t, nil, 2000, coded(t, "call 1 0, jump 0", 0, 0), coded(t, "mark 0 1, leave 0", 1<<16, 0))
	var before, behind runtime.MemStats
	runtime.ReadMemStats(&before)
	for m.Step() {
	}
	runtime.ReadMemStats(&behind)
	if used := behind.TotalAlloc - before.TotalAlloc; m.Ticks() != 2000 || used > 1<<26 {
		t.Errorf("%d calls have taken %d bytes", m.Ticks(), used)
	}
}

// counted is a code that runs just so many instructions, and then those of s. It needs a cell.
func counted(t *testing.T, n int, s string) api.Code {
	t.Helper()
	rounds, rest := (n-4)/7, (n-4)%7
	l := strings.Split(strings.Repeat("jump, ", rest)+"push "+strconv.Itoa(rounds)+", store 0, load 0, zero +7, load 0, push 1, sub, store 0, jump -6, "+s, ", ")
	for k, line := range l {
		switch line {
		case "jump":
			l[k] = "jump " + strconv.Itoa(k+1)
		case "zero +7":
			l[k] = "zero " + strconv.Itoa(k+6)
		case "jump -6":
			l[k] = "jump " + strconv.Itoa(k-6)
		}
	}
	return coded(t, strings.Join(l, ", "), 1, 0)
}

func TestMaxSteps(t *testing.T) { // P9.2: 2^20 instructions without a tick or an end, and no more
	const all = 1 << 20
	for s, want := range map[string]string{
		"mark 3 2, leave 0": "1 [2 0.3 deep 1] 0.3 0;",
		"leave 0":           "0 ended",
	} {
		m := started(t, nil, 9, counted(t, all-1, s))
		if ticked := m.Step(); shown(m) != want || ticked != (m.Ticks() == 1) {
			t.Errorf("%s at the end of a step: %s", s, shown(m))
		}
		if s == "leave 0" && events(m) != "end" {
			t.Errorf("%q", events(m))
		}
		m = started(t, nil, 9, counted(t, all, s))
		if ticked := m.Step(); shown(m) != "0 0.-1 0; ended" || ticked || events(m) != "fuel" {
			t.Errorf("%s behind the end of a step: %s, %q", s, shown(m), events(m))
		}
	}
	for n, want := range map[int]string{all - 3: "print 1, trap 5", all - 2: "print 1, fuel", all - 1: "fuel"} {
		m := started(t, nil, 9, counted(t, n, "push 1, print, read, drop, leave 0"))
		if m.Step() || events(m) != want {
			t.Errorf("behind %d: %q", n, events(m))
		}
	}
	m := started(t, nil, 9, coded(t, "jump 0", 0, 0))
	if m.Step() || m.Step() || events(m) != "fuel" || m.Ticks() != 0 || !m.Ended() {
		t.Errorf("%q", events(m))
	}
}

func TestMaxStepsAnew(t *testing.T) { // P9.2: each step has as many
	for n, ticks := range map[int]int{1<<20 - 2: 3, 1<<20 - 1: 1} { // the jump back counts, too
		m := started(t, nil, 3, counted(t, n, "mark 3 2, jump 0"))
		ends(t, m, "fuel")
		if m.Ticks() != ticks {
			t.Errorf("%d: %s", n, shown(m))
		}
	}
}

func TestMaxInput(t *testing.T) { // P9.2: all numbers of the input, in order
	input := make([]int64, 1000)
	for k := range input {
		input[k] = int64(k * k)
	}
	m := started(t, input, 9, coded(t, "read, drop, jump 0", 0, 0))
	if m.Step() || m.Count() != 1001 {
		t.Fatalf("%d events", m.Count())
	}
	for k, e := range m.Events() {
		if want := (api.Event{Kind: api.EvRead, N: int64(k * k)}); k < 1000 && e != want || k == 1000 && e != (api.Event{Kind: api.EvTrap, N: api.TrapInput}) {
			t.Fatalf("event %d: %v", k, e)
		}
	}
}

func TestNothingIsKept(t *testing.T) { // rule 3: what is handed in, or answered, may be changed
	l := []api.Code{coded(t, "mark 0 1, read, store 0, mark 1 2, load 0, print, leave 0", 1, 0)}
	input := []int64{7}
	m := started(t, input, 9, l...)
	input[0] = 8
	clear(l[0].Ins)
	l[0] = api.Code{}
	m.Step()
	_, _, cells, _ := m.Frame(0)
	cells[0] = 9
	m.Step()
	_, _, cells, _ = m.Frame(0)
	cells[0] = 9
	list := m.Events()
	list[0].N = 9
	_ = append(list[:0:cap(list)], make([]api.Event, cap(list))...)
	ends(t, m, "read 7, print 7, end")
}

func TestCopy(t *testing.T) { // P9.4, P9.8, by hand
	m := started(t, []int64{5, 6}, 99,
		coded(t, "mark 0 1, push 4, push 3, read, call 1 1, add, add, print, mark 1 3, leave 0", 1, 0),
		coded(t, "mark 0 1, load 0, push 1, add, store 0, mark 1 2, read, store 1, mark 2 3, load 0, load 1, mul, leave 1", 2, 1))
	rows := []string{"0 0.-1 0;", "1 [1 0.0 deep 1] 0.0 0;", "2 [1 1.0 deep 2] 0.0 0; 1.0 5 0;", "3 [2 1.1 deep 2] 0.0 0; 1.1 6 0;",
		"4 [3 1.2 deep 2] 0.0 0; 1.2 6 6;", "5 [3 0.1 deep 1] 0.1 0;", "5 [3 0.1 deep 1] ended"}
	var copies []*vm.Machine
	for range rows {
		copies = append(copies, m.Copy())
		m.Step()
	}
	over := rows[len(rows)-1]
	steps(t, copies[len(rows)-1].Copy(), over, over)
	for k := len(rows) - 2; k >= 0; k-- {
		steps(t, copies[k].Copy(), rows[k:]...)
		if shown(copies[k]) != rows[k] {
			t.Errorf("%s; want %s", shown(copies[k]), rows[k])
		}
		ends(t, copies[k], "read 5, read 6, print 43, end")
	}
	ends(t, m, "read 5, read 6, print 43, end")
}

func TestEventsOfCopies(t *testing.T) { // P9.8: the events of copies that go other ways, or do not go on, are their own
	m := started(t, nil, 1000, coded(t, "mark 0 1, load 0, push 1, add, store 0, load 0, print, jump 0", 1, 0))
	var copies []*vm.Machine
	for range 100 {
		m.Step()
		copies = append(copies, m.Copy(), m.Copy().Copy())
	}
	for k, c := range copies {
		for range 1 + k%5 {
			c.Step()
		}
		m.Step()
	}
	for k, c := range copies {
		want := []api.Event{}
		for n := range k/2 + 1 + k%5 {
			want = append(want, api.Event{Kind: api.EvPrint, N: int64(n + 1)})
		}
		if !reflect.DeepEqual(c.Events(), want) {
			t.Fatalf("copy %d: %v; want %v", k, c.Events(), want)
		}
	}
	if e := m.Events(); len(e) != 299 || e[298].N != 299 {
		t.Errorf("%d events", len(e))
	}
}
