package code_test

import (
	"math"
	"strings"
	"testing"

	"parallax/api"
	"parallax/code"
)

// lines are instructions by hand, one of each operation with numbers at the ends of theirs.
var lines = []struct {
	api.Ins
	line string
}{
	{api.Ins{Op: 1, N: 5}, "push 5"}, {api.Ins{Op: 1}, "push 0"}, {api.Ins{Op: 1, N: -1}, "push -1"},
	{api.Ins{Op: 1, N: math.MinInt64}, "push -9223372036854775808"}, {api.Ins{Op: 1, N: math.MaxInt64}, "push 9223372036854775807"},
	{api.Ins{Op: 2, N: 3}, "load 3"}, {api.Ins{Op: 3, N: 4}, "store 4"},
	{api.Ins{Op: 4, N: 2, M: 5}, "index 2 5"}, {api.Ins{Op: 5, N: 0, M: 64}, "put 0 64"}, {api.Ins{Op: 6, N: 7, M: 1}, "clear 7 1"},
	{api.Ins{Op: 7}, "add"}, {api.Ins{Op: 8}, "sub"}, {api.Ins{Op: 9}, "mul"}, {api.Ins{Op: 10}, "div"}, {api.Ins{Op: 11}, "mod"},
	{api.Ins{Op: 12}, "less"}, {api.Ins{Op: 13}, "most"}, {api.Ins{Op: 14}, "same"}, {api.Ins{Op: 15}, "not"}, {api.Ins{Op: 16}, "neg"},
	{api.Ins{Op: 17, N: 9}, "jump 9"}, {api.Ins{Op: 18, N: 0}, "zero 0"}, {api.Ins{Op: 19, N: 1, M: 8}, "call 1 8"}, {api.Ins{Op: 20, N: 1}, "leave 1"},
	{api.Ins{Op: 21}, "print"}, {api.Ins{Op: 22}, "read"}, {api.Ins{Op: 23}, "test"}, {api.Ins{Op: 24, N: 0, M: 1}, "mark 0 1"}, {api.Ins{Op: 25}, "drop"},
	// Lines say what there is, sound or not.
	{api.Ins{Op: 2, N: -7}, "load -7"}, {api.Ins{Op: 4}, "index 0 0"}, {api.Ins{Op: 17, N: math.MinInt64}, "jump -9223372036854775808"},
	{api.Ins{Op: 19, N: -1, M: math.MaxInt64}, "call -1 9223372036854775807"}, {api.Ins{Op: 20, N: 7}, "leave 7"}, {api.Ins{Op: 24, N: -1, M: 4}, "mark -1 4"},
}

func TestLines(t *testing.T) { // P8.1, P8.3
	for _, x := range lines {
		if got, e := code.Text(x.Ins); got != x.line || e != api.OK {
			t.Errorf("Text(%v) = %q, %d; want %q", x.Ins, got, e, x.line)
		}
		if got, e := code.Parse(x.line); got != x.Ins || e != api.OK {
			t.Errorf("Parse(%q) = %v, %d; want %v", x.line, got, e, x.Ins)
		}
	}
}

// said is how many numbers the lines of an operation have.
func said(op int) int {
	for _, x := range lines {
		if x.Op == op {
			return strings.Count(x.line, " ")
		}
	}
	return -1
}

func TestTextOfNone(t *testing.T) { // P8.1
	for _, op := range []int{0, -1, 26, 27, 100, math.MinInt, math.MaxInt} {
		if got, e := code.Text(api.Ins{Op: op}); got != "" || e != api.ErrText {
			t.Errorf("the operation %d: %q, %d", op, got, e)
		}
	}
	for op := 1; op <= api.MaxOp; op++ {
		for _, n := range []int64{1, -1, 2, math.MinInt64, math.MaxInt64} {
			for least, i := range map[int]api.Ins{1: {Op: op, N: n}, 2: {Op: op, M: n}} {
				if got, e := code.Text(i); (e == api.OK) != (said(op) >= least) || (e == api.OK) != (got != "") || e != api.OK && e != api.ErrText {
					t.Errorf("Text(%v) = %q, %d", i, got, e)
				}
			}
		}
	}
}

func TestParseOfNone(t *testing.T) { // P8.1
	for _, s := range []string{
		"", " ", "  ", "0", "-", "1", "?", "nop", "Push 1", "PUSH 1", "pus 1", "pushh 1", "push1", "1 push", "\x00", "push\x001", "push\t1", "push 1\n", "\xff",
		"push", "push ", "push  1", " push 1", "push 1 ", "push 1  ", "push 1 2", "push 1 0", "push x", "push +1", "push -0", "push 01", "push 1.0", "push 0x1",
		"push 9223372036854775808", "push -9223372036854775809", "push 99999999999999999999999",
		"load", "load 1 2", "store", "store 1 0", "index", "index 1", "index 1 2 3", "index 1  2", "index 1 02", "index 1 x", "index x 1", "put 1", "clear 1", "clear 1 2 0",
		"add 0", "add 1", "add ", " add", "sub 0 0", "mul 0", "div 0", "mod 0", "less 0", "most 0", "same 0", "not 0", "neg 0", "neg -1",
		"jump", "jump 1 0", "zero", "zero 1 0", "call 1", "call 1 1 1", "leave", "leave 0 0", "print 0", "read 0", "test 0", "mark 1", "mark 1 1 0", "drop 0",
		"push " + strings.Repeat("1", 100000), strings.Repeat("add ", 100000), strings.Repeat(" ", 100000),
	} {
		if got, e := code.Parse(s); got != (api.Ins{}) || e != api.ErrText {
			t.Errorf("Parse(%.60q) = %v, %d", s, got, e)
		}
	}
}

func TestPrint(t *testing.T) { // P8.1
	l := []api.Ins{{Op: api.OpMark, M: 1}, {Op: api.OpPush, N: -5}, {}, {Op: api.OpAdd, N: 1}, {Op: 26}, {Op: api.OpJump, N: -3}, {Op: api.OpPush, M: 1}, {Op: api.OpLeave}}
	want := "0 mark 0 1\n1 push -5\n2 ?\n3 ?\n4 ?\n5 jump -3\n6 ?\n7 leave 0\n"
	if got := code.Print(api.Code{Ins: l, Cells: -1, Params: 99, Answers: true}); got != want {
		t.Errorf("%q; want %q", got, want)
	}
	for _, c := range []api.Code{{}, {Ins: []api.Ins{}, Cells: 3}} {
		if got := code.Print(c); got != "" {
			t.Errorf("%q of nothing", got)
		}
	}
	long := code.Print(api.Code{Ins: make([]api.Ins, 100001)})
	if !strings.HasSuffix(long, "\n99999 ?\n100000 ?\n") || strings.Count(long, "\n") != 100001 {
		t.Errorf("the end of a long one: %q", long[len(long)-30:])
	}
}
