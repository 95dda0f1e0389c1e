package peep_test

import (
	"reflect"
	"slices"
	"strings"
	"testing"

	"parallax/api"
	"parallax/code"
	"parallax/peep"
	"parallax/sample"
)

// coded is a code of lines with a comma between any two, and a hundred cells.
func coded(t *testing.T, s string) api.Code {
	t.Helper()
	c := api.Code{Cells: 100}
	for line := range strings.SplitSeq(s, ", ") {
		i, e := code.Parse(line)
		if e != api.OK {
			t.Fatalf("Parse(%q): %d", line, e)
		}
		c.Ins = append(c.Ins, i)
	}
	return c
}

// joined are the lines of a code, with a comma between any two.
func joined(c api.Code) string {
	var all []string
	for _, i := range c.Ins {
		line, _ := code.Text(i)
		all = append(all, line)
	}
	return strings.Join(all, ", ")
}

// does asks for the rule at a place, the first one where any fits, and for the code with that one done.
func does(t *testing.T, rule, at int, before, after string) {
	t.Helper()
	l := []api.Code{coded(t, before)}
	if !code.Sound(l, 0) {
		t.Fatalf("%s is not sound", before)
	}
	for p := range at {
		if got := peep.Rule(l, 0, p); got != 0 {
			t.Errorf("%s: rule %d at %d", before, got, p)
		}
	}
	if got := peep.Rule(l, 0, at); got != rule {
		t.Errorf("%s: rule %d at %d; want %d", before, got, at, rule)
	}
	if got, done := peep.Once(l, 0); !done || joined(got) != after || got.Cells != 100 || got.Params != 0 || got.Answers {
		t.Errorf("%s: once %s, %v, %v; want %s", before, joined(got), got, done, after)
	}
}

// stays asks whether no rule fits at a place.
func stays(t *testing.T, at int, s string) {
	t.Helper()
	l := []api.Code{coded(t, s)}
	if !code.Sound(l, 0) {
		t.Fatalf("%s is not sound", s)
	}
	if got := peep.Rule(l, 0, at); got != 0 {
		t.Errorf("%s: rule %d at %d", s, got, at)
	}
}

func TestRulesOfOne(t *testing.T) { // P10.1, P10.2: the rules 1 to 4
	does(t, 1, 1, "leave 0, print", "leave 0")
	does(t, 1, 1, "leave 0, mark 3 2", "leave 0")
	does(t, 1, 1, "jump 2, push 1, leave 0", "jump 1, leave 0")
	does(t, 1, 1, "leave 0, jump 1, zero 1", "leave 0, zero 1")
	does(t, 2, 0, "jump 1, leave 0", "leave 0")
	does(t, 2, 1, "mark 1 2, jump 2, read, zero 1, leave 0", "mark 1 2, read, zero 1, leave 0")
	does(t, 3, 1, "read, zero 2, leave 0", "read, drop, leave 0")
	does(t, 4, 1, "read, zero 4, read, print, jump 6, print, leave 0", "read, zero 6, read, print, jump 6, print, leave 0")
	does(t, 4, 0, "jump 2, leave 0, jump 4, leave 0, leave 0", "jump 4, leave 0, jump 4, leave 0, leave 0")
	does(t, 4, 3, "jump 2, jump 4, read, zero 1, leave 0", "jump 2, jump 4, read, zero 4, leave 0")
	stays(t, 0, "jump 2, leave 0, leave 0")
	stays(t, 1, "read, zero 3, leave 0, leave 0")
	stays(t, 1, "read, zero 3, leave 0, jump 0")                       // leads back
	stays(t, 1, "read, zero 3, leave 0, jump 3")                       // to itself
	stays(t, 2, "read, read, zero 5, print, leave 0, zero 4, leave 0") // a zero is no jump
	stays(t, 1, "read, zero 0, leave 0")                               // back
	stays(t, 0, "jump 0")                                              // to itself
	stays(t, 1, "mark 1 2, jump 0")                                    // no place behind it
	stays(t, 0, "jump 2, leave 0, mark 1 2, jump 0")                   // a mark between
}

func TestRulesOfNumbers(t *testing.T) { // P10.1, P10.2: the rules 5 and 6
	for _, x := range []struct{ before, after string }{
		{"push 3, neg", "push -3"},
		{"push 0, neg", "push 0"},
		{"push -9223372036854775808, neg", "push -9223372036854775808"},
		{"push 0, not", "push 1"},
		{"push 1, not", "push 0"},
		{"push -7, not", "push 0"},
	} {
		does(t, 5, 0, x.before+", print, leave 0", x.after+", print, leave 0")
	}
	for _, x := range []struct{ before, after string }{
		{"push 7, push 2, add", "push 9"},
		{"push 9223372036854775807, push 1, add", "push -9223372036854775808"},
		{"push 7, push 2, sub", "push 5"},
		{"push -9223372036854775808, push 1, sub", "push 9223372036854775807"},
		{"push 7, push 2, mul", "push 14"},
		{"push 4611686018427387904, push 2, mul", "push -9223372036854775808"},
		{"push -7, push 2, div", "push -3"},
		{"push -9223372036854775808, push -1, div", "push -9223372036854775808"},
		{"push 0, push 5, div", "push 0"},
		{"push -7, push 2, mod", "push -1"},
		{"push -9223372036854775808, push -1, mod", "push 0"},
		{"push 2, push 3, less", "push 1"},
		{"push 3, push 3, less", "push 0"},
		{"push 3, push 3, most", "push 1"},
		{"push 4, push 3, most", "push 0"},
		{"push 3, push 3, same", "push 1"},
		{"push 3, push -3, same", "push 0"},
	} {
		does(t, 6, 0, x.before+", print, leave 0", x.after+", print, leave 0")
	}
	stays(t, 0, "push 7, push 0, div, print, leave 0")
	stays(t, 0, "push 7, push 0, mod, print, leave 0")
	stays(t, 0, "push 0, push 0, mod, print, leave 0")
	stays(t, 0, "push 7, push 0, put 0 9, leave 0")
	stays(t, 0, "push 7, load 0, add, print, leave 0")
	stays(t, 0, "load 0, push 7, add, print, leave 0")
	stays(t, 0, "load 0, neg, print, leave 0")
	stays(t, 0, "push 7, print, leave 0")
	stays(t, 0, "push 7, push 8, print, print, leave 0")
	does(t, 5, 1, "push 7, push 8, neg, add, print, leave 0", "push 7, push -8, add, print, leave 0")
}

func TestRulesOfTwo(t *testing.T) { // P10.1, P10.2: the rules 7 to 11
	does(t, 7, 0, "push 7, drop, leave 0", "leave 0")
	does(t, 7, 0, "load 7, drop, leave 0", "leave 0")
	stays(t, 0, "read, drop, leave 0")
	stays(t, 0, "load 7, print, leave 0")
	for _, s := range []string{"push 0, add", "push 0, sub", "push 1, mul", "push 1, div"} {
		does(t, 8, 1, "read, "+s+", print, leave 0", "read, print, leave 0")
	}
	for _, s := range []string{"push 1, add", "push 1, sub", "push 0, mul", "push 0, div", "push 1, mod", "push 0, mod", "push -1, mul", "push 0, less", "push 1, same", "load 0, add"} {
		stays(t, 1, "read, "+s+", print, leave 0")
	}
	does(t, 9, 0, "load 3, store 3, leave 0", "leave 0")
	stays(t, 0, "load 3, store 4, leave 0")
	stays(t, 0, "push 3, store 3, leave 0")
	stays(t, 1, "read, store 3, load 3, print, leave 0")
	does(t, 10, 0, "push 0, zero 4, read, print, leave 0", "jump 3, read, print, leave 0")
	does(t, 10, 0, "push 2, zero 4, read, print, leave 0", "read, print, leave 0")
	does(t, 10, 0, "push -1, zero 4, read, print, leave 0", "read, print, leave 0")
	does(t, 10, 0, "push 0, zero 0, leave 0", "jump 0, leave 0")
	does(t, 10, 1, "mark 1 2, push 0, zero 0, leave 0", "mark 1 2, jump 0, leave 0")
	does(t, 10, 0, "push 0, zero 2, leave 0", "jump 1, leave 0")
	stays(t, 0, "load 0, zero 4, read, print, leave 0")
	does(t, 11, 0, "push 1, test, leave 0", "leave 0")
	does(t, 11, 0, "push -5, test, leave 0", "leave 0")
	stays(t, 0, "push 0, test, leave 0")
	stays(t, 0, "load 1, test, leave 0")
}

func TestRuleOfClears(t *testing.T) { // P10.1, P10.2: the rule 12
	does(t, 12, 0, "clear 0 2, clear 2 3, leave 0", "clear 0 5, leave 0")
	does(t, 12, 0, "clear 5 32, clear 37 32, leave 0", "clear 5 64, leave 0")
	does(t, 12, 1, "clear 0 64, clear 64 1, clear 65 1, leave 0", "clear 0 64, clear 64 2, leave 0")
	stays(t, 0, "clear 5 33, clear 38 32, leave 0")
	stays(t, 0, "clear 5 32, clear 37 33, leave 0")
	stays(t, 0, "clear 0 2, clear 3 3, leave 0")
	stays(t, 0, "clear 0 2, clear 1 3, leave 0")
	stays(t, 0, "clear 2 3, clear 0 2, leave 0")
	stays(t, 0, "clear 0 2, clear 0 2, leave 0")
	stays(t, 0, "clear 0 2, mark 1 2, clear 2 2, leave 0")
}

func TestTargets(t *testing.T) { // P10.1: what a rule asks for behind its place is no target
	for _, s := range []string{
		"push 3, neg, print", "push 3, drop", "load 1, drop", "load 1, store 1", "push 1, zero 7, mark 1 2", "push 0, zero 7, mark 1 2", "push 1, test",
		"push 3, push 4, add, print",
	} {
		stays(t, 4, "read, read, zero 5, drop, "+s+", leave 0")
	}
	stays(t, 6, "read, read, read, zero 8, drop, drop, push 3, push 4, add, print, leave 0")
	stays(t, 5, "read, read, read, zero 6, drop, push 0, add, print, leave 0")
	stays(t, 2, "read, zero 3, clear 0 1, clear 1 1, leave 0")
	// the first one may be
	does(t, 7, 4, "read, zero 4, read, print, push 1, drop, leave 0", "read, zero 4, read, print, leave 0")
	does(t, 5, 4, "read, zero 4, read, print, push 1, neg, print, leave 0", "read, zero 4, read, print, push -1, print, leave 0")
	// and so may the third one, where two are taken
	does(t, 7, 2, "read, zero 4, push 1, drop, read, print, leave 0", "read, zero 2, read, print, leave 0")
}

func TestUnreachedJumps(t *testing.T) { // P10.1, P10.2: what can not be reached has no target, but leads on to where that one is
	does(t, 5, 0, "push 3, neg, print, leave 0, jump 1", "push -3, print, leave 0, jump 0")
	does(t, 5, 0, "push 3, neg, print, leave 0, zero 0", "push -3, print, leave 0, zero 0")
	does(t, 5, 0, "push 3, neg, print, leave 0, jump 2", "push -3, print, leave 0, jump 1")
	does(t, 6, 0, "push 3, push 4, add, print, leave 0, jump 2, jump 1", "push 7, print, leave 0, jump 0, jump 0")
	does(t, 7, 0, "push 3, drop, leave 0, jump 1, jump 3", "leave 0, jump 0, jump 1")
	does(t, 1, 1, "leave 0, print, jump 1, jump 2, jump 3", "leave 0, jump 1, jump 1, jump 2")
	does(t, 2, 0, "jump 1, leave 0, jump 1, jump 0", "leave 0, jump 0, jump 0")
}

func TestOrder(t *testing.T) { // P10.1: the first in the list. P10.2: at the first place, whatever fits behind it.
	does(t, 2, 0, "jump 1, jump 3, leave 0, leave 0", "jump 2, leave 0, leave 0")
	does(t, 3, 1, "read, zero 2, jump 4, leave 0, leave 0", "read, drop, jump 4, leave 0, leave 0")
	does(t, 1, 1, "leave 0, jump 2, leave 0", "leave 0, leave 0")
	does(t, 1, 1, "leave 0, push 1, neg", "leave 0, neg")
	does(t, 12, 0, "clear 0 1, clear 1 1, leave 0, print", "clear 0 2, leave 0, print")
	l := []api.Code{coded(t, "clear 0 1, clear 1 1, push 3, push 4, add, neg, print, jump 8, leave 0, print")}
	for at, want := range []int{12, 0, 6, 0, 0, 0, 0, 2, 0, 1} {
		if got := peep.Rule(l, 0, at); got != want {
			t.Errorf("rule %d at %d; want %d", got, at, want)
		}
	}
}

func TestSteps(t *testing.T) { // P10.2, P10.3: one after the other, back to where one fits that did not
	l := []api.Code{coded(t, "mark 0 1, push 3, neg, print, push 9, push 2, zero 2, drop, leave 0")}
	for _, want := range []string{
		"mark 0 1, push 3, neg, print, push 9, drop, leave 0",
		"mark 0 1, push -3, print, push 9, drop, leave 0",
		"mark 0 1, push -3, print, leave 0",
	} {
		c, done := peep.Once(l, 0)
		if !done || joined(c) != want {
			t.Errorf("%s, %v; want %s", joined(c), done, want)
		}
		l[0] = c
	}
	if c, done := peep.Once(l, 0); done || !reflect.DeepEqual(c, l[0]) {
		t.Errorf("%v, %v; want %v", c, done, l[0])
	}
}

// short asks what a code is made short to.
func short(t *testing.T, before, after string) {
	t.Helper()
	l, e := peep.Make([]api.Code{coded(t, before)}, 0)
	if e != api.OK || len(l) != 1 || joined(l[0]) != after || l[0].Cells != 100 {
		t.Errorf("%s: %v, %d; want %s", before, l, e, after)
	}
}

func TestMake(t *testing.T) { // P10.3
	short(t, "push 2, push 3, mul, print, jump 5, leave 0", "push 6, print, leave 0")
	short(t, "leave 0", "leave 0")
	short(t, "push 1, push 2, add, push 3, mul, not, print, leave 0", "push 0, print, leave 0")
	short(t, "mark 0 1, push 0, zero 6, push 1, print, jump 1, mark 1 3, leave 0", "mark 0 1, mark 1 3, leave 0")
	short(t, "mark 0 1, push 1, zero 6, push 1, print, jump 1, mark 1 3, leave 0", "mark 0 1, push 1, print, jump 1")
	short(t, "read, zero 5, push 1, print, jump 7, push 2, print, leave 0", "read, zero 5, push 1, print, jump 7, push 2, print, leave 0")
	short(t, "push 1, zero 5, push 1, print, jump 7, push 2, print, leave 0", "push 1, print, leave 0")
	short(t, "push 0, zero 5, push 1, print, jump 7, push 2, print, leave 0", "push 2, print, leave 0")
	short(t, "push 1, test, push 0, test, leave 0", "push 0, test, leave 0")
	short(t, "push 5, push 0, div, drop, leave 0", "push 5, push 0, div, drop, leave 0")
	short(t, "clear 0 1, clear 1 1, clear 2 1, load 0, store 0, clear 3 61, clear 64 1, leave 0", "clear 0 64, clear 64 1, leave 0")
	short(t, "mark 0 1, push 3, neg, neg, print, push 9, push 2, zero 2, drop, leave 0", "mark 0 1, push 3, print, leave 0")
	short(t, "push 0, zero 0, leave 0", "jump 0")
	short(t, "jump 3, read, zero 3, jump 1", "jump 3, read, drop, jump 1")
	short(t, "read, zero 4, read, print, jump 5, jump 6, jump 8, print, leave 0", "read, zero 4, read, print, leave 0")
}

func TestMakeSeveral(t *testing.T) { // P10.3: each one, with all else as it was
	l := []api.Code{coded(t, "push 1, push 2, add, call 2 1, print, leave 0"), coded(t, "call 0 0, jump 2, leave 0"), coded(t, "load 0, push 0, add, leave 1")}
	l[2].Params, l[2].Answers, l[2].Cells = 1, true, 7
	l = l[1:]
	l[0].Ins[0] = api.Ins{Op: api.OpPush, N: 5}
	l[0].Ins = slices.Insert(l[0].Ins, 1, api.Ins{Op: api.OpCall, N: 1, M: 1}, api.Ins{Op: api.OpDrop})
	l[0].Ins[3].N = 4
	got, e := peep.Make(l, 0)
	if e != api.OK || len(got) != 2 {
		t.Fatalf("%v, %d", got, e)
	}
	if joined(got[0]) != "push 5, call 1 1, drop, leave 0" || joined(got[1]) != "load 0, leave 1" {
		t.Errorf("%s; %s", joined(got[0]), joined(got[1]))
	}
	if c := got[1]; c.Params != 1 || !c.Answers || c.Cells != 7 {
		t.Errorf("%v", c)
	}
	if c, done := peep.Once(l, 1); !done || c.Params != 1 || !c.Answers || c.Cells != 7 || joined(c) != "load 0, leave 1" {
		t.Errorf("%v, %v", c, done)
	}
}

func TestWrong(t *testing.T) { // P10.1 to P10.3: what there is not, and what has no heights
	good, bad := coded(t, "push 1, drop, leave 0"), coded(t, "push 1, drop, add, leave 0")
	l := []api.Code{good, bad}
	for _, x := range [][2]int{{-1, 0}, {2, 0}, {0, -1}, {0, 3}, {1, 0}, {-1 << 63, 0}, {0, 1<<63 - 1}} {
		if got := peep.Rule(l, x[0], x[1]); got != 0 {
			t.Errorf("Rule(%v) = %d", x, got)
		}
	}
	if got := peep.Rule(l, 0, 0); got != 7 { // what the other one is plays no part
		t.Errorf("Rule = %d", got)
	}
	for _, k := range []int{-1, 1, 2, 1<<63 - 1} {
		if c, done := peep.Once(l, k); done || !reflect.DeepEqual(c, api.Code{}) {
			t.Errorf("Once(%d) = %v, %v", k, c, done)
		}
	}
	for _, x := range []struct {
		l    []api.Code
		main int
	}{{l, 0}, {l, 1}, {nil, 0}, {l[:1], 1}, {l[:1], -1}, {[]api.Code{{}}, 0}, {make([]api.Code, 41), 0}} {
		if got, e := peep.Make(x.l, x.main); e != api.ErrCode || len(got) != 0 {
			t.Errorf("Make(%v, %d) = %v, %d", x.l, x.main, got, e)
		}
	}
	if got := peep.Rule(nil, 0, 0); got != 0 {
		t.Errorf("Rule of nothing = %d", got)
	}
}

func TestMemory(t *testing.T) { // rule 3: what is handed in stays as it is, also behind its end; what is answered is new
	all := coded(t, "mark 0 1, leave 0, print, print, print").Ins
	l := []api.Code{{Ins: all[:2]}, {Ins: all[:2]}}
	before := sample.CopyCodes([]api.Code{{Ins: all}})
	once, _ := peep.Once(l, 0)
	short, e := peep.Make(l, 0)
	if e != api.OK {
		t.Fatal(e)
	}
	for _, c := range append(short, once) {
		if len(c.Ins) != 2 || c.Ins[0] != (api.Ins{Op: api.OpMark, M: 1}) {
			t.Errorf("%v", c)
		}
		clear(c.Ins[:cap(c.Ins)])
	}
	if !slices.Equal(all, before[0].Ins) {
		t.Errorf("%v were changed", all)
	}
}

// TestLong has codes as long as may be, with a rule for each few places.
func TestLong(t *testing.T) { // P1, P10.3
	for _, x := range []struct {
		row  string
		left int
	}{
		{"push 1, drop", 1},
		{"load 1, store 1", 1},
		{"push 1, neg, print, mark 1 2", 3*(api.MaxCode/4-1) + 1},
		{"push 1, push 2, less, test", 1},
	} {
		row := coded(t, x.row).Ins
		c := api.Code{Cells: 2}
		for len(c.Ins) < api.MaxCode-4 {
			c.Ins = append(c.Ins, row...)
		}
		c.Ins = append(c.Ins, api.Ins{Op: api.OpLeave})
		l, e := peep.Make(slices.Repeat([]api.Code{c}, 4), 0)
		if e != api.OK || len(l[3].Ins) != x.left {
			t.Errorf("%s: %d, %d instructions; want %d", x.row, e, len(l[3].Ins), x.left)
		}
	}
	var jumps api.Code
	for at := range api.MaxCode - 2 {
		jumps.Ins = append(jumps.Ins, api.Ins{Op: api.OpJump, N: int64(at) + 2})
	}
	jumps.Ins = append(jumps.Ins, api.Ins{Op: api.OpLeave}, api.Ins{Op: api.OpLeave})
	if l, e := peep.Make([]api.Code{jumps}, 0); e != api.OK || joined(l[0]) != "leave 0" {
		t.Errorf("%d, %d instructions", e, len(l[0].Ins))
	}
}
