package code_test

import (
	"math"
	"slices"
	"strconv"
	"strings"
	"testing"

	"parallax/api"
	"parallax/code"
)

// ins are instructions of lines with a comma between any two.
func ins(t *testing.T, s string) []api.Ins {
	t.Helper()
	var l []api.Ins
	for _, line := range strings.Split(s, ", ") {
		i, e := code.Parse(line)
		if e != api.OK {
			t.Fatalf("Parse(%q): %d", line, e)
		}
		l = append(l, i)
	}
	return l
}

// alone asks whether a code of so many cells is sound by itself, and what its heights then are.
func alone(t *testing.T, s string, cells int, want ...int) {
	t.Helper()
	l := []api.Code{{Ins: ins(t, s), Cells: cells}}
	heights, ok := code.Heights(l, 0)
	if sound := code.Sound(l, 0); sound != (len(want) > 0) || ok != sound || !slices.Equal(heights, want) {
		t.Errorf("%s: sound: %v; heights %v, %v; want %v", s, sound, heights, ok, want)
	}
}

func TestMoves(t *testing.T) { // P8.2: what each operation takes and leaves
	alone(t, "mark 0 1, leave 0", 0, 0, 0)
	alone(t, "add, leave 0", 0)
	for s, moves := range map[string][2]int{
		"push 7": {0, 1}, "load 1": {0, 1}, "store 1": {1, 0}, "index 0 2": {1, 1}, "put 0 2": {2, 0}, "clear 0 2": {0, 0},
		"add": {2, 1}, "sub": {2, 1}, "mul": {2, 1}, "div": {2, 1}, "mod": {2, 1}, "less": {2, 1}, "most": {2, 1}, "same": {2, 1}, "not": {1, 1}, "neg": {1, 1},
		"print": {1, 0}, "read": {0, 1}, "test": {1, 0}, "drop": {1, 0}, "jump next": {0, 0}, "zero next": {1, 0}, "call 0 0": {0, 0},
	} {
		for height := range 5 {
			var l []string
			var want []int
			for k := range height {
				l, want = append(l, "push 1"), append(want, k)
			}
			l, want = append(l, strings.ReplaceAll(s, "next", strconv.Itoa(height+1))), append(want, height)
			for left := height - moves[0] + moves[1]; left > 0; left-- {
				l, want = append(l, "drop"), append(want, left)
			}
			l, want = append(l, "leave 0"), append(want, 0)
			if height < moves[0] {
				want = nil
			}
			alone(t, strings.Join(l, ", "), 2, want...)
		}
	}
}

func TestHeightsAtLeavesAndMarks(t *testing.T) { // P8.2
	alone(t, "push 1, leave 0", 0)
	alone(t, "push 1, mark 0 1, drop, leave 0", 0)
	alone(t, "push 1, drop, mark 0 1, leave 0", 0, 0, 1, 0, 0)
	alone(t, "leave 0", 0, 0)
	alone(t, "leave 1", 0)
	alone(t, "push 1, leave 1", 0)
	for s, want := range map[string]bool{
		"push 1, leave 1": true, "leave 0": false, "leave 1": false, "push 1, leave 0": false, "push 1, push 1, leave 1": false,
		"push 1, zero 3, leave 0, push 1, leave 1": false, "push 1, zero 4, push 1, leave 1, push 2, leave 1": true,
	} {
		l := []api.Code{{Ins: ins(t, "leave 0")}, {Ins: ins(t, s), Answers: true}}
		if _, ok := code.Heights(l, 1); ok != want || code.Sound(l, 0) != want {
			t.Errorf("%s, which answers: %v, %v", s, ok, code.Sound(l, 0))
		}
	}
}

func TestNextPlaces(t *testing.T) { // P8.2: which places come next
	alone(t, "push 1, print", 0) // a place behind the last one
	alone(t, "jump 2, push 1, leave 0", 0, 0, -1, 0)
	alone(t, "jump 0", 0, 0)
	alone(t, "jump 1", 0)
	alone(t, "push 1, jump 0", 0) // comes back higher
	alone(t, "push 1, drop, jump 0", 0, 0, 1, 0)
	alone(t, "push 1, zero 0, leave 0", 0, 0, 1, 0)
	alone(t, "push 1, zero 2", 0)
	alone(t, "push 1, zero 1", 0)
	alone(t, "push 1, zero 0", 0) // else the one behind it comes
	alone(t, "push 1, zero 3, push 5, leave 0", 0)
	alone(t, "push 1, zero 4, push 5, print, leave 0", 0, 0, 1, 0, 1, 0)
	alone(t, "push 1, push 2, zero 4, jump 5, jump 5, drop, leave 0", 0, 0, 1, 2, 1, 1, 1, 0)
	alone(t, "jump 3, push 1, jump 0, leave 0", 0, 0, -1, -1, 0)
	alone(t, "leave 0, jump 0, leave 0", 0, 0, -1, -1)
}

func TestUnreached(t *testing.T) { // P8.5
	for _, s := range []string{"add", "drop", "push 1", "mark 7 2", "leave 0", "jump 2", "jump 0", "zero 1", "put 0 2", "store 1", "call 0 0", "print"} {
		alone(t, "jump 2, "+s+", leave 0", 2, 0, -1, 0)
		alone(t, "leave 0, "+s+", "+s, 2, 0, -1, -1)
	}
	for _, i := range []api.Ins{
		{}, {Op: 26}, {Op: -1}, {Op: math.MaxInt}, {Op: math.MinInt}, {Op: api.OpAdd, N: 1}, {Op: api.OpAdd, M: 1}, {Op: api.OpPush, M: 1}, {Op: api.OpLoad, M: 1}, {Op: api.OpLeave, M: 1}, {Op: api.OpJump, M: 1}, {Op: api.OpZero, M: -1}, {Op: api.OpStore, M: 1},
		{Op: api.OpLoad, N: 2}, {Op: api.OpStore, N: -1}, {Op: api.OpJump, N: 3}, {Op: api.OpZero, N: -1}, {Op: api.OpLeave, N: 1}, {Op: api.OpMark, M: 4}, {Op: api.OpCall, N: 1}, {Op: api.OpClear}, {Op: api.OpPrint, N: -1}, {Op: api.OpDrop, M: 2},
	} {
		l := []api.Code{{Ins: []api.Ins{{Op: api.OpJump, N: 2}, i, {Op: api.OpLeave}}, Cells: 2}}
		if heights, ok := code.Heights(l, 0); ok || len(heights) > 0 || code.Sound(l, 0) {
			t.Errorf("%v: %v, %v", i, heights, ok)
		}
	}
}

// operation is that of a word.
func operation(word string) int {
	for _, x := range lines {
		if first, _, _ := strings.Cut(x.line, " "); first == word {
			return x.Op
		}
	}
	return 0
}

func TestNumbers(t *testing.T) { // P8.2: which N and M there may be
	const least, most = math.MinInt64, math.MaxInt64
	for s, wants := range map[string]map[[2]int64]bool{
		"load":  {{0, 0}: true, {9, 0}: true, {10, 0}: false, {-1, 0}: false, {least, 0}: false, {most, 0}: false},
		"store": {{0, 0}: true, {9, 0}: true, {10, 0}: false, {-1, 0}: false, {least, 0}: false, {most, 0}: false},
		"index": {{0, 1}: true, {0, 10}: true, {9, 1}: true, {3, 7}: true, {0, 0}: false, {0, 11}: false, {10, 0}: false, {9, 2}: false, {10, 1}: false, {-1, 2}: false, {-1, 1}: false, {5, -1}: false, {most, 1}: false, {1, most}: false, {most, most}: false, {least, 1}: false, {1, least}: false, {least, least}: false, {most, least}: false},
		"put":   {{0, 1}: true, {0, 10}: true, {9, 1}: true, {0, 0}: false, {0, 11}: false, {9, 2}: false, {-1, 2}: false, {5, -1}: false, {most, 1}: false, {1, most}: false, {2, most}: false, {least, most}: false},
		"clear": {{0, 1}: true, {0, 10}: true, {9, 1}: true, {0, 0}: false, {0, 11}: false, {9, 2}: false, {-1, 2}: false, {5, -1}: false, {most, 1}: false, {1, most}: false, {most, 2}: false},
		"jump":  {{0, 0}: true, {3, 0}: true, {4, 0}: false, {-1, 0}: false, {most, 0}: false, {least, 0}: false},
		"zero":  {{0, 0}: true, {3, 0}: true, {4, 0}: false, {-1, 0}: false, {most, 0}: false, {least, 0}: false},
		"mark":  {{0, 1}: true, {0, 2}: true, {0, 3}: true, {most, 3}: true, {0, 0}: false, {0, 4}: false, {0, -1}: false, {-1, 1}: false, {least, 1}: false, {5, most}: false},
		"push":  {{0, 0}: true, {most, 0}: true, {least, 0}: true, {0, 1}: false},
		"leave": {{0, 0}: true, {1, 0}: false, {-1, 0}: false, {most, 0}: false},
		"call":  {{0, 0}: true, {1, 2}: true, {2, 0}: true, {1, 1}: false, {1, 3}: false, {0, 1}: false, {3, 0}: false, {-1, 0}: false, {1, -1}: false, {most, 0}: false, {least, 0}: false, {1, most}: false},
	} {
		for n, want := range wants {
			i := api.Ins{Op: operation(s), N: n[0], M: n[1]}
			l := []api.Code{
				{Ins: []api.Ins{{Op: api.OpJump, N: 3}, {Op: api.OpJump}, i, {Op: api.OpLeave}}, Cells: 10},
				{Ins: []api.Ins{{Op: api.OpLeave}}, Cells: 2, Params: 2},
				{Ins: []api.Ins{{Op: api.OpPush}, {Op: api.OpLeave, N: 1}}, Answers: true},
			}
			if got := code.Sound(l, 0); got != want {
				t.Errorf("%s %v: %v", s, n, got)
			}
		}
	}
}

func TestWidths(t *testing.T) { // P8.2: M is from 1 to MaxSize
	for _, op := range []int{api.OpIndex, api.OpPut, api.OpClear} {
		for m, want := range map[int64]bool{63: true, 64: true, 65: false, 100: false} {
			l := []api.Code{{Ins: []api.Ins{{Op: api.OpLeave}, {Op: op, N: 36, M: m}}, Cells: 200}}
			if got := code.Sound(l, 0); got != want {
				t.Errorf("%d of the operation %d: %v", m, op, got)
			}
		}
	}
}

func TestCalls(t *testing.T) { // P8.2: a call takes what the other one is given, and leaves what it answers
	three := api.Code{Ins: ins(t, "load 0, leave 1"), Cells: 3, Params: 3, Answers: true}
	none := api.Code{Ins: ins(t, "leave 0"), Cells: 1, Params: 1}
	for s, want := range map[string]bool{
		"push 1, push 2, push 3, call 1 3, print, leave 0": true,
		"push 1, push 2, call 1 3, print, leave 0":         false,
		"push 1, push 2, push 3, call 1 3, leave 0":        false,
		"push 1, call 2 1, leave 0":                        true,
		"push 1, call 2 1, print, leave 0":                 false,
		"call 2 1, leave 0":                                false,
		"call 0 0, leave 0":                                true,
		"push 1, push 2, call 2 1, drop, leave 0":          true,
	} {
		l := []api.Code{{Ins: ins(t, s)}, three, none}
		if _, ok := code.Heights(l, 0); ok != want || code.Sound(l, 0) != want {
			t.Errorf("%s: %v, %v", s, ok, code.Sound(l, 0))
		}
	}
}

// long is a code of so many instructions.
func long(n int) []api.Ins {
	l := make([]api.Ins, n)
	for k := range l {
		l[k] = api.Ins{Op: api.OpJump, N: int64(k + 1)}
	}
	if n > 0 {
		l[n-1] = api.Ins{Op: api.OpLeave}
	}
	return l
}

func TestLimits(t *testing.T) { // P8.2: how much there may be
	for n, want := range map[int]bool{0: false, 1: true, 1<<16 - 1: true, 1 << 16: true, 1<<16 + 1: false} {
		l := []api.Code{{Ins: long(n)}}
		if heights, ok := code.Heights(l, 0); ok != want || code.Sound(l, 0) != want || want && len(heights) != n {
			t.Errorf("%d instructions: %v", n, ok)
		}
	}
	for cells, want := range map[int]bool{-1: false, 0: true, 1: true, 1 << 16: true, 1<<16 + 1: false, math.MaxInt: false, math.MinInt: false} {
		if got := code.Sound([]api.Code{{Ins: long(1), Cells: cells}}, 0); got != want {
			t.Errorf("%d cells: %v", cells, got)
		}
	}
	for params, want := range map[int]bool{-1: false, 0: true, 1: true, api.MaxParams: true, api.MaxParams + 1: false, math.MaxInt: false, math.MinInt: false} {
		l := []api.Code{{Ins: long(1)}, {Ins: long(1), Cells: 100, Params: params}}
		if _, ok := code.Heights(l, 1); ok != want || code.Sound(l, 0) != want {
			t.Errorf("%d params: %v", params, ok)
		}
	}
	for cells, want := range map[int]bool{0: false, 2: false, 3: true, 4: true} {
		if got := code.Sound([]api.Code{{Ins: long(1)}, {Ins: long(1), Cells: cells, Params: 3}}, 0); got != want {
			t.Errorf("3 params and %d cells: %v", cells, got)
		}
	}
	for n, want := range map[int]bool{0: false, 1: true, 40: true, 41: false} {
		if got := code.Sound(slices.Repeat([]api.Code{{Ins: long(1)}}, n), 0); got != want {
			t.Errorf("%d codes: %v", n, got)
		}
	}
}

func TestHighest(t *testing.T) { // P8.2: none is above 4096
	for n, want := range map[int]bool{4095: true, 4096: true, 4097: false} {
		l := []api.Code{{Ins: append(append(slices.Repeat([]api.Ins{{Op: api.OpPush}}, n), slices.Repeat([]api.Ins{{Op: api.OpDrop}}, n)...), api.Ins{Op: api.OpLeave})}}
		heights, ok := code.Heights(l, 0)
		if ok != want || code.Sound(l, 0) != want || want && slices.Max(heights) != n {
			t.Errorf("%d pushes: %v", n, ok)
		}
	}
}

func TestWhichMain(t *testing.T) { // P8.2: which code main may be
	l := []api.Code{{Ins: long(1), Cells: 1, Params: 1}, {Ins: long(1)}, {Ins: ins(t, "push 1, leave 1"), Answers: true}}
	for main, want := range map[int]bool{-1: false, 0: false, 1: true, 2: false, 3: false, math.MaxInt: false, math.MinInt: false} {
		if got := code.Sound(l, main); got != want {
			t.Errorf("main %d: %v", main, got)
		}
	}
	for _, l := range [][]api.Code{nil, {}} {
		if code.Sound(l, 0) {
			t.Error("no codes are sound")
		}
	}
}

func TestHeightsOfOne(t *testing.T) { // P8.2: a code's heights hang on that one, and on what it calls
	bad := api.Code{Ins: ins(t, "add, leave 0"), Cells: 1, Params: 1}
	l := []api.Code{{Ins: ins(t, "push 1, call 1 1, leave 0")}, bad, {}}
	if heights, ok := code.Heights(l, 0); !ok || !slices.Equal(heights, []int{0, 1, 0}) || code.Sound(l, 0) {
		t.Errorf("%v, %v", heights, ok)
	}
	for _, k := range []int{-1, 1, 2, 3, math.MaxInt, math.MinInt} {
		if heights, ok := code.Heights(l, k); ok || len(heights) > 0 {
			t.Errorf("code %d: %v, %v", k, heights, ok)
		}
	}
	many := slices.Repeat(l[:2], 50)
	many[70].Ins = ins(t, "push 1, call 99 1, leave 0")
	if heights, ok := code.Heights(many, 70); !ok || !slices.Equal(heights, []int{0, 1, 0}) {
		t.Errorf("%v, %v", heights, ok)
	}
	for _, params := range []int{-1, math.MinInt, math.MaxInt} { // what can not be handed over
		odd := []api.Code{{Ins: []api.Ins{{Op: api.OpCall, N: 1, M: int64(params)}, {Op: api.OpLeave}}}, {Ins: long(1), Params: params}}
		if heights, ok := code.Heights(odd, 0); ok || len(heights) > 0 {
			t.Errorf("params %d: %v, %v", params, heights, ok)
		}
	}
	if heights, ok := code.Heights(nil, 0); ok || len(heights) > 0 {
		t.Errorf("%v of nothing", heights)
	}
}
