package calls_test

import (
	"math"
	"slices"
	"testing"

	"parallax/align"
	"parallax/api"
	"parallax/calls"
)

// ticks are those of a text: a letter enters the procedure of its number (a: 0), a comma is a statement, and a dot leaves.
func ticks(s string) []api.Tick {
	var l []api.Tick
	var open []int
	for _, c := range []byte(s) {
		tick := api.Tick{Kind: api.MEnter, Proc: int(c) - 'a'}
		if c >= 'a' {
			open = append(open, tick.Proc)
		} else {
			tick = api.Tick{Kind: api.MStmt, Proc: open[len(open)-1], Mark: 1}
		}
		tick.Depth = len(open)
		if c == '.' {
			tick.Kind, tick.Mark = api.MLeave, 2
			open = open[:len(open)-1]
		}
		l = append(l, tick)
	}
	return l
}

// treeOf is the calls of a text's ticks; none of an empty text, of which Tree tells none.
func treeOf(t *testing.T, s string) []calls.Call {
	t.Helper()
	if s == "" {
		return nil
	}
	l, e := calls.Tree(ticks(s))
	if e != api.OK {
		t.Fatalf("Tree of %q: %d", s, e)
	}
	return l
}

func TestTree(t *testing.T) { // P16.1
	for _, c := range []struct {
		s    string
		want []calls.Call
	}{
		{"a", []calls.Call{{0, 1, 0, -1}}},
		{"a.", []calls.Call{{0, 1, 2, -1}}},
		{"h,,.", []calls.Call{{7, 1, 4, -1}}},
		{"a,b,.,b,", []calls.Call{{0, 1, 0, -1}, {1, 3, 5, 0}, {1, 7, 0, 0}}}, // the chapter's example
		{"abc...", []calls.Call{{0, 1, 6, -1}, {1, 2, 5, 0}, {2, 3, 4, 1}}},
		{"aaa", []calls.Call{{0, 1, 0, -1}, {0, 2, 0, 0}, {0, 3, 0, 1}}},
		{"a,b,c.,.,d.e,f.", []calls.Call{{0, 1, 0, -1}, {1, 3, 8, 0}, {2, 5, 6, 1}, {3, 10, 11, 0}, {4, 12, 0, 0}, {5, 14, 15, 4}}},
	} {
		given := ticks(c.s)
		if got, e := calls.Tree(given); e != api.OK || !slices.Equal(got, c.want) {
			t.Errorf("%q: %v, %d; want %v", c.s, got, e, c.want)
		}
		if !slices.Equal(given, ticks(c.s)) {
			t.Errorf("%q: the ticks were changed", c.s)
		}
	}
}

func TestTreeErrors(t *testing.T) { // P16.1: ticks that are no run's
	enter, stmt, leave := api.MEnter, api.MStmt, api.MLeave
	for _, l := range [][]api.Tick{
		nil, // no ticks have no first one
		{},
		{{Kind: stmt, Depth: 1}},
		{{Kind: leave, Depth: 1}},
		{{Kind: stmt}},
		{{Kind: leave}},
		{{Kind: enter}},
		{{Kind: enter, Depth: 2}},
		{{Kind: enter, Depth: -1}},
		{{Kind: enter, Depth: math.MinInt}},
		{{Kind: enter, Depth: math.MaxInt}},
		{{Depth: 1}},
		{{Kind: 4, Depth: 1}},
		{{Kind: -1, Depth: 1}},
		{{Kind: enter, Depth: 1}, {Kind: enter, Depth: 1}},
		{{Kind: enter, Depth: 1}, {Kind: enter, Depth: 3}},
		{{Kind: enter, Depth: 1}, {Kind: stmt, Depth: 2}},
		{{Kind: enter, Depth: 1}, {Kind: stmt, Depth: 0}},
		{{Kind: enter, Depth: 1}, {Kind: leave, Depth: 2}},
		{{Kind: enter, Depth: 1}, {Kind: leave, Depth: 0}},
		{{Kind: enter, Depth: 1}, {Kind: stmt, Proc: 1, Depth: 1}},
		{{Kind: enter, Depth: 1}, {Kind: leave, Proc: 1, Depth: 1}},
		{{Kind: enter, Depth: 1}, {Kind: 0, Depth: 1}},
		{{Kind: enter, Depth: 1}, {Kind: 4, Depth: 1}},
		{{Kind: enter, Depth: 1}, {Kind: 4, Depth: 2}},
		{{Kind: enter, Depth: 1}, {Kind: leave, Depth: 1}, {Kind: enter, Depth: 1}},
		{{Kind: enter, Depth: 1}, {Kind: leave, Depth: 1}, {Kind: stmt, Depth: 1}},
		{{Kind: enter, Depth: 1}, {Kind: leave, Depth: 1}, {Kind: stmt}},
		{{Kind: enter, Depth: 1}, {Kind: leave, Depth: 1}, {Kind: leave}},
		{{Kind: enter, Depth: 1}, {Kind: enter, Proc: 1, Depth: 2}, {Kind: stmt, Depth: 2}},
		{{Kind: enter, Depth: 1}, {Kind: enter, Proc: 1, Depth: 2}, {Kind: stmt, Depth: 1}},
		{{Kind: enter, Depth: 1}, {Kind: enter, Proc: 1, Depth: 2}, {Kind: leave, Depth: 1}},
		{{Kind: enter, Depth: 1}, {Kind: enter, Proc: 1, Depth: 2}, {Kind: leave, Proc: 1, Depth: 2}, {Kind: stmt, Proc: 1, Depth: 1}},
	} {
		if got, e := calls.Tree(l); e != api.ErrForm || len(got) > 0 {
			t.Errorf("%v: %v, %d", l, got, e)
		}
	}
	// Of a tick's Mark, and of an entered procedure's number, nothing is asked.
	odd := []api.Tick{{Kind: enter, Proc: -7, Mark: 9, Depth: 1}, {Kind: stmt, Proc: -7, Mark: -9, Depth: 1}, {Kind: leave, Proc: -7, Depth: 1}}
	if got, e := calls.Tree(odd); e != api.OK || !slices.Equal(got, []calls.Call{{-7, 1, 3, -1}}) {
		t.Errorf("%v: %v, %d", odd, got, e)
	}
}

func TestKids(t *testing.T) { // P16.1
	l := treeOf(t, "abc.d..ef..")
	for k, want := range [][]int{{1, 4}, {2, 3}, nil, nil, {5}, nil} {
		if got := calls.Kids(l, k); !slices.Equal(got, want) {
			t.Errorf("Kids of %d: %v, want %v", k, got, want)
		}
	}
	for _, k := range []int{-1, -2, 6, math.MaxInt, math.MinInt} {
		if got := calls.Kids(l, k); len(got) > 0 {
			t.Errorf("Kids of %d: %v", k, got)
		}
	}
	if got := calls.Kids(nil, 0); len(got) > 0 {
		t.Errorf("Kids of no call: %v", got)
	}
}

// pairs are pairs, two numbers each.
func pairs(l ...int) []align.Pair {
	var all []align.Pair
	for i := 0; i < len(l); i += 2 {
		all = append(all, align.Pair{A: l[i], B: l[i+1]})
	}
	return all
}

// paired are pairs of procedures, two letters each.
func paired(s string) [][2]int {
	var l [][2]int
	for i := 0; i < len(s); i += 2 {
		l = append(l, [2]int{int(s[i]) - 'a', int(s[i+1]) - 'a'})
	}
	return l
}

func TestMatch(t *testing.T) { // P16.2
	for _, c := range []struct {
		a, b, pairs string
		limit       int
		want        []align.Pair
		cut         bool
	}{
		{"a.", "a.", "aa", 0, pairs(0, 0), false},
		{"a", "a.", "aa", 0, pairs(0, 0), false},
		{"a.", "a.", "", 9, nil, false},
		{"a.", "a.", "ab", 9, nil, false},
		{"a.", "a.", "ba", 9, nil, false},
		{"a.", "b.", "ab", 0, pairs(0, 0), false}, // the first calls are matched by no limit
		{"a.", "b.", "aa", 0, nil, false},
		{"", "a.", "aa", 9, nil, false},
		{"a.", "", "aa", 9, nil, false},
		{"", "", "aa", 9, nil, false},
		{"ab.b..", "ab.b..", "aabb", 0, pairs(0, 0, 1, 1, 2, 2), false},
		{"ab.b..", "ab.b..", "aa", 9, pairs(0, 0), false},
		{"ab.b..", "ab.b..", "bb", 9, nil, false}, // what is not made in matched calls is not matched
		{"abc...", "abc...", "aacc", 9, pairs(0, 0), false},
		{"ab.c..", "ac.b..", "aabbcc", 4, pairs(0, 0, 1, 2), false},
		{"ab.c..", "ac.b..", "aabbcc", 3, pairs(0, 0), true},
		{"ab.c..", "ac.b..", "aabccb", 0, pairs(0, 0, 1, 1, 2, 2), false}, // b and c are each other's
		{"ab.b.b..", "ab..", "aabb", 0, pairs(0, 0, 1, 1), false},         // 2 times 0
		{"ad.b.d.b..", "ab.b..", "aabb", 8, pairs(0, 0, 2, 1, 4, 2), false},
		{"ad.b.d.b..", "ab.b..", "aabb", 7, pairs(0, 0), true},
		{"ab.d.c..", "ab.e.c..", "aabbcc", 4, pairs(0, 0, 1, 1, 3, 3), false},
		{"ab.d.c..", "ab.e.c..", "aabbcc", 3, pairs(0, 0, 1, 1), true}, // what they begin with is still matched
		{"ab.d.c..", "ab.e.c..", "aabbcc", -1, pairs(0, 0, 1, 1), true},
		{"ad.", "ad.", "aa", 0, pairs(0, 0), true}, // calls of procedures that are in no pair are not the same
		{"ad.", "ad.", "aa", 1, pairs(0, 0), false},
		{"abbb....", "abb...", "aabb", 0, pairs(0, 0, 1, 1, 2, 2), false},
		{"abc.d..bc...", "abd..bc.e...", "aabbccddee", 9, pairs(0, 0, 1, 1, 3, 2, 4, 3, 5, 4), false},
		{"abc.d..bc...", "abd..bc.e...", "aabbccddee", 1, pairs(0, 0, 1, 1, 4, 3, 5, 4), true}, // one is truncated: the others are not
		{"abc.c..bd..", "abd..bc.c...", "aabbccdd", 9, pairs(0, 0, 1, 1, 4, 3), false},         // kids of unlike calls are never matched
		{"abc..", "abc", "aabbcc", 0, pairs(0, 0, 1, 1, 2, 2), false},
		{"ab.", "ab.", "aabbbb", 0, pairs(0, 0, 1, 1), false},
		{"ab.", "ac.", "aabbbc", 1, pairs(0, 0), false}, // (b, c) shares b with one that counts
		{"ac.", "ab.", "aabbcb", 1, pairs(0, 0), false},
		{"ab.", "ac.", "aaabacbc", 1, pairs(0, 0, 1, 1), false}, // those that share a do not count: (b, c) shares with these alone
		{"ad.", "ac.", "aabbbcdc", 1, pairs(0, 0, 1, 1), false},
		{"ab.", "bc.", "abbabc", 1, pairs(0, 0), false}, // a procedure of the first run is none of the second one
		{"ab.", "ba.", "abba", 1, pairs(0, 0, 1, 1), false},
	} {
		x, y, l := treeOf(t, c.a), treeOf(t, c.b), paired(c.pairs)
		got, cut := calls.Match(x, y, l, c.limit)
		if !slices.Equal(got, c.want) || cut != c.cut {
			t.Errorf("%q and %q by %q and %d: %v, %v; want %v, %v", c.a, c.b, c.pairs, c.limit, got, cut, c.want, c.cut)
		}
		if !slices.Equal(x, treeOf(t, c.a)) || !slices.Equal(y, treeOf(t, c.b)) || !slices.Equal(l, paired(c.pairs)) {
			t.Errorf("%q and %q by %q: something was changed", c.a, c.b, c.pairs)
		}
	}
}

func TestMatchOddNumbers(t *testing.T) { // P16.2: any number may stand for a procedure
	for _, n := range []int{-1, -2, -3, 0, 1, 2, math.MinInt, math.MaxInt} {
		a := []calls.Call{{n, 1, 0, -1}, {n, 2, 3, 0}, {5, 4, 5, 0}}
		b := []calls.Call{{6, 1, 0, -1}, {7, 2, 3, 0}, {6, 4, 5, 0}}
		got, cut := calls.Match(a, b, [][2]int{{n, 6}}, math.MaxInt)
		if !slices.Equal(got, pairs(0, 0, 1, 2)) || cut {
			t.Errorf("%d: %v, %v", n, got, cut)
		}
		got, cut = calls.Match(b, a, [][2]int{{6, n}}, math.MinInt)
		if !slices.Equal(got, pairs(0, 0)) || !cut {
			t.Errorf("%d: %v, %v", n, got, cut)
		}
	}
}

func TestMatchEnds(t *testing.T) { // P1: calls that Tree never tells
	odd := [][]calls.Call{
		{{0, 1, 2, 0}},
		{{0, 1, 2, 1}, {0, 1, 2, 0}},
		{{0, 1, 2, 5}, {0, 1, 2, -9}, {0, 1, 2, math.MaxInt}, {0, 1, 2, math.MinInt}},
		{{0, 0, 0, -1}, {0, 0, 0, 1}, {0, 0, 0, 2}, {0, 0, 0, 0}, {0, 0, 0, 3}},
		{{0, 9, 8, 0}, {0, 7, 6, 0}, {0, 5, 4, 0}},
	}
	for _, a := range odd {
		for _, b := range odd {
			l, _ := calls.Match(a, b, [][2]int{{0, 0}}, 99)
			for i, p := range l {
				if p.A >= len(a) || p.B >= len(b) || i > 0 && p.A <= l[i-1].A {
					t.Errorf("%v and %v: %v", a, b, l)
				}
			}
		}
		for k := range len(a) + 1 {
			calls.Kids(a, k)
		}
	}
}
