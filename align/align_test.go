package align_test

import (
	"math"
	"slices"
	"testing"

	"parallax/align"
	"parallax/api"
)

// row is prints of letters' numbers, a capital one being an event of another kind with that number.
func row(s string) []api.Event {
	var l []api.Event
	for _, c := range []byte(s) {
		if c >= 'a' {
			l = append(l, api.Event{Kind: api.EvPrint, N: int64(c - 'a')})
		} else {
			l = append(l, api.Event{Kind: api.EvRead, N: int64(c - 'A')})
		}
	}
	return l
}

// pairs are pairs, two numbers each.
func pairs(l ...int) []align.Pair {
	var all []align.Pair
	for i := 0; i < len(l); i += 2 {
		all = append(all, align.Pair{A: l[i], B: l[i+1]})
	}
	return all
}

func TestParting(t *testing.T) { // P15.1
	for _, c := range []struct {
		a, b string
		k    int
	}{
		{"", "", -1}, {"a", "a", -1}, {"abc", "abc", -1}, {"", "a", 0}, {"a", "", 0}, {"a", "b", 0}, {"a", "A", 0},
		{"ab", "a", 1}, {"a", "ab", 1}, {"abc", "abd", 2}, {"abcabc", "abxabc", 2}, {"aaa", "aaaa", 3}, {"aaa", "aaA", 2},
	} {
		if k := align.Parting(row(c.a), row(c.b)); k != c.k {
			t.Errorf("%q and %q part at %d, want %d", c.a, c.b, k, c.k)
		}
		if k := align.Parting(row(c.b), row(c.a)); k != c.k {
			t.Errorf("%q and %q part at %d, want %d", c.b, c.a, k, c.k)
		}
	}
	if k := align.Parting(nil, []api.Event{}); k != -1 {
		t.Errorf("no events part at %d", k)
	}
	ends := []api.Event{{Kind: api.EvEnd}, {Kind: api.EvEnd, N: 1}, {Kind: 0}, {Kind: -3, N: math.MinInt64}}
	for i := range ends {
		for j := range ends {
			if k := align.Parting(ends[i:i+1], ends[j:j+1]); (k == -1) != (i == j) {
				t.Errorf("%v and %v part at %d", ends[i], ends[j], k)
			}
		}
	}
}

func TestText(t *testing.T) { // P15.1
	for _, c := range []struct {
		e    api.Event
		text string
	}{
		{api.Event{Kind: api.EvPrint, N: 7}, "print 7"},
		{api.Event{Kind: api.EvPrint, N: -1}, "print -1"},
		{api.Event{Kind: api.EvPrint}, "print 0"},
		{api.Event{Kind: api.EvPrint, N: math.MinInt64}, "print -9223372036854775808"},
		{api.Event{Kind: api.EvRead, N: math.MaxInt64}, "read 9223372036854775807"},
		{api.Event{Kind: api.EvEnd}, "end"},
		{api.Event{Kind: api.EvEnd, N: 5}, "end"},
		{api.Event{Kind: api.EvTrap, N: api.TrapDepth}, "trap 4"},
		{api.Event{Kind: api.EvTrap, N: -9}, "trap -9"},
		{api.Event{Kind: api.EvFuel}, "fuel"},
		{api.Event{Kind: api.EvFuel, N: -1}, "fuel"},
		{api.Event{}, "event 0 0"},
		{api.Event{Kind: 6, N: 3}, "event 6 3"},
		{api.Event{Kind: -2, N: -3}, "event -2 -3"},
		{api.Event{Kind: math.MaxInt, N: 1}, "event 9223372036854775807 1"},
		{api.Event{Kind: math.MinInt, N: 1}, "event -9223372036854775808 1"},
	} {
		if text := align.Text(c.e); text != c.text {
			t.Errorf("%v: %q, want %q", c.e, text, c.text)
		}
	}
}

func TestMatch(t *testing.T) { // P15.2
	for _, c := range []struct {
		a, b  string
		limit int
		l     []align.Pair
		cut   bool
	}{
		{"", "", 0, nil, false},
		{"", "", -5, nil, false},
		{"ab", "ab", 0, pairs(0, 0, 1, 1), false},
		{"ab", "ab", math.MinInt, pairs(0, 0, 1, 1), false},
		{"ab", "abcd", 0, pairs(0, 0, 1, 1), false}, // 0 times 2
		{"abcd", "ab", -1, pairs(0, 0, 1, 1), false},
		{"abC", "abc", 0, pairs(0, 0, 1, 1), true}, // 1 times 1
		{"abC", "abc", 1, pairs(0, 0, 1, 1), false},
		{"abC", "abc", -1, pairs(0, 0, 1, 1), true},
		{"abc", "bc", 6, pairs(1, 0, 2, 1), false},
		{"abc", "bc", 5, nil, true},
		{"abc", "bc", math.MaxInt, pairs(1, 0, 2, 1), false},
		{"abc", "bc", math.MinInt, nil, true},
		{"xabc", "xbc", 5, pairs(0, 0), true}, // what they begin with counts not
		{"xabc", "xbc", 6, pairs(0, 0, 2, 1, 3, 2), false},
		{"ab", "ba", 4, pairs(0, 1), false}, // (0, 1) is less than (1, 0)
		{"abab", "bb", 99, pairs(1, 0, 3, 1), false},
		{"ba", "aaa", 99, pairs(1, 0), false},        // the first of b
		{"aab", "xab", 99, pairs(0, 1, 2, 2), false}, // the first of a
		{"abcbdab", "bdcaba", 99, pairs(1, 0, 2, 2, 3, 4, 5, 5), false},
		{"axbyc", "zaxc", 99, pairs(0, 1, 1, 2, 4, 3), false},
		{"xay", "zaw", 99, pairs(1, 1), false},
		{"aB", "Ab", 99, nil, false},
	} {
		a, b := row(c.a), row(c.b)
		l, cut := align.Match(a, b, c.limit)
		if !slices.Equal(l, c.l) || cut != c.cut {
			t.Errorf("%q and %q by %d: %v, %v; want %v, %v", c.a, c.b, c.limit, l, cut, c.l, c.cut)
		}
		if !slices.Equal(a, row(c.a)) || !slices.Equal(b, row(c.b)) {
			t.Errorf("%q or %q was changed", c.a, c.b)
		}
	}
}

func TestFits(t *testing.T) { // P15.3
	for _, c := range []struct {
		a, b string
		l    []align.Pair
		fits bool
	}{
		{"", "", nil, true}, {"ab", "xy", []align.Pair{}, true}, {"ab", "ab", pairs(0, 0, 1, 1), true}, {"ab", "ab", pairs(1, 1), true},
		{"ab", "ab", pairs(1, 1, 0, 0), false}, {"ab", "ab", pairs(0, 0, 0, 0), false}, {"aa", "aa", pairs(0, 1, 1, 0), false},
		{"aa", "aa", pairs(0, 0, 0, 1), false}, {"aa", "aa", pairs(0, 0, 1, 0), false}, {"aa", "aa", pairs(1, 0), true},
		{"ab", "ab", pairs(0, 1), false}, {"a", "A", pairs(0, 0), false}, {"a", "a", pairs(0, 1), false}, {"a", "a", pairs(1, 0), false},
		{"a", "a", pairs(-1, 0), false}, {"a", "a", pairs(0, -1), false}, {"", "", pairs(0, 0), false},
		{"ab", "ab", pairs(0, 0, math.MaxInt, 1), false}, {"ab", "ab", pairs(0, 0, 1, math.MinInt), false},
	} {
		if fits := align.Fits(row(c.a), row(c.b), c.l); fits != c.fits {
			t.Errorf("%v of %q and %q: %v", c.l, c.a, c.b, fits)
		}
	}
}

func TestRegions(t *testing.T) { // P15.4
	for _, c := range []struct {
		n, m int
		l    []align.Pair
		want []align.Region
	}{
		{0, 0, nil, nil},
		{2, 3, nil, []align.Region{{0, 2, 0, 3}}},
		{2, 0, nil, []align.Region{{0, 2, 0, 0}}},
		{0, 3, nil, []align.Region{{0, 0, 0, 3}}},
		{2, 2, pairs(0, 0, 1, 1), nil},
		{3, 2, pairs(1, 0, 2, 1), []align.Region{{0, 1, 0, 0}}},
		{3, 3, pairs(1, 1), []align.Region{{0, 1, 0, 1}, {2, 3, 2, 3}}},
		{5, 5, pairs(0, 0, 3, 1, 4, 4), []align.Region{{1, 3, 1, 1}, {4, 4, 2, 4}}},
		{5, 4, pairs(0, 0, 1, 1, 2, 2), []align.Region{{3, 5, 3, 4}}},
		{math.MaxInt, math.MaxInt, pairs(math.MaxInt-1, 0), []align.Region{{0, math.MaxInt - 1, 0, 0}, {math.MaxInt, math.MaxInt, 1, math.MaxInt}}},
	} {
		if got, e := align.Regions(c.n, c.m, c.l); e != api.OK || !slices.Equal(got, c.want) {
			t.Errorf("%d, %d, %v: %v, %d; want %v", c.n, c.m, c.l, got, e, c.want)
		}
		if got, e := align.Hunks(c.n, c.m, c.l, 0); e != api.OK || !slices.Equal(got, c.want) {
			t.Errorf("hunks of %d, %d, %v: %v, %d; want %v", c.n, c.m, c.l, got, e, c.want)
		}
	}
}

func TestHunks(t *testing.T) { // P15.4
	// 12 events each: four pairs, one of b, two pairs, one of a, three pairs, one of each, one pair.
	l := pairs(0, 0, 1, 1, 2, 2, 3, 3, 4, 5, 5, 6, 7, 7, 8, 8, 9, 9, 11, 11)
	for _, x := range []struct {
		c    int
		want []align.Region
	}{
		{0, []align.Region{{4, 4, 4, 5}, {6, 7, 7, 7}, {10, 11, 10, 11}}},
		{1, []align.Region{{3, 8, 3, 8}, {9, 12, 9, 12}}},
		{2, []align.Region{{2, 12, 2, 12}}},
		{3, []align.Region{{1, 12, 1, 12}}},
		{4, []align.Region{{0, 12, 0, 12}}},
		{5, []align.Region{{0, 12, 0, 12}}},
		{math.MaxInt/2 + 1, []align.Region{{0, 12, 0, 12}}},
		{math.MaxInt, []align.Region{{0, 12, 0, 12}}},
	} {
		if got, e := align.Hunks(12, 12, l, x.c); e != api.OK || !slices.Equal(got, x.want) {
			t.Errorf("c %d: %v, %d; want %v", x.c, got, e, x.want)
		}
	}
	for _, c := range []int{0, 1, math.MaxInt} {
		if got, e := align.Hunks(2, 2, pairs(0, 0, 1, 1), c); e != api.OK || len(got) > 0 {
			t.Errorf("hunks of rows that are the same: %v, %d", got, e)
		}
	}
}

func TestRegionErrors(t *testing.T) { // P15.4
	for _, x := range []struct {
		n, m, c int
		l       []align.Pair
		e, h    api.Errno // of Regions, of Hunks
	}{
		{2, 2, 0, pairs(0, 0, 1, 1), api.OK, api.OK},
		{-1, 0, 0, nil, api.ErrArg, api.ErrArg},
		{0, -1, 0, nil, api.ErrArg, api.ErrArg},
		{math.MinInt, math.MinInt, math.MinInt, nil, api.ErrArg, api.ErrArg},
		{-1, 2, 0, pairs(5, 5), api.ErrArg, api.ErrArg},
		{2, 2, -1, nil, api.OK, api.ErrArg},
		{2, 2, -1, pairs(2, 2), api.ErrPair, api.ErrArg},
		{2, 2, 1, pairs(2, 1), api.ErrPair, api.ErrPair},
		{2, 2, 1, pairs(1, 2), api.ErrPair, api.ErrPair},
		{2, 2, 1, pairs(-1, 0), api.ErrPair, api.ErrPair},
		{2, 2, 1, pairs(0, -1), api.ErrPair, api.ErrPair},
		{2, 2, 1, pairs(0, 0, 0, 1), api.ErrPair, api.ErrPair},
		{2, 2, 1, pairs(0, 0, 1, 0), api.ErrPair, api.ErrPair},
		{2, 2, 1, pairs(1, 1, 0, 0), api.ErrPair, api.ErrPair},
		{3, 3, 1, pairs(0, 1, 1, 0), api.ErrPair, api.ErrPair},
		{0, 0, 1, pairs(0, 0), api.ErrPair, api.ErrPair},
		{1, 1, 1, pairs(math.MaxInt, math.MaxInt), api.ErrPair, api.ErrPair},
		{1, 1, 1, pairs(math.MinInt, math.MinInt), api.ErrPair, api.ErrPair},
	} {
		if l, e := align.Regions(x.n, x.m, x.l); e != x.e || e != api.OK && len(l) > 0 {
			t.Errorf("Regions(%d, %d, %v): %v, %d, want %d", x.n, x.m, x.l, l, e, x.e)
		}
		if l, e := align.Hunks(x.n, x.m, x.l, x.c); e != x.h || e != api.OK && len(l) > 0 {
			t.Errorf("Hunks(%d, %d, %v, %d): %v, %d, want %d", x.n, x.m, x.l, x.c, l, e, x.h)
		}
	}
}

func TestLines(t *testing.T) { // P15.5
	a, b := row("abcxd"), row("aybcDd") // the pairs a, b, c, d
	l := pairs(0, 0, 1, 2, 2, 3, 4, 5)
	for _, c := range []struct {
		l    []align.Pair
		r    align.Region
		want []string
	}{
		{l, align.Region{FromA: 0, ToA: 5, FromB: 0, ToB: 6}, []string{"  print 0", "+ print 24", "  print 1", "  print 2", "- print 23", "+ read 3", "  print 3"}},
		{l, align.Region{}, nil},
		{l, align.Region{FromA: 5, ToA: 5, FromB: 6, ToB: 6}, nil},
		{l, align.Region{FromA: 3, ToA: 4, FromB: 4, ToB: 5}, []string{"- print 23", "+ read 3"}},
		{l, align.Region{FromA: 1, ToA: 3, FromB: 3, ToB: 5}, []string{"- print 1", "  print 2", "+ read 3"}}, // of (1, 2) one index is outside
		{l, align.Region{FromA: 2, ToA: 4, FromB: 0, ToB: 3}, []string{"- print 2", "- print 23", "+ print 0", "+ print 24", "+ print 1"}},
		{l, align.Region{FromA: 0, ToA: 5, FromB: 2, ToB: 2}, []string{"- print 0", "- print 1", "- print 2", "- print 23", "- print 3"}},
		{l, align.Region{FromA: 5, ToA: 5, FromB: 0, ToB: 1}, []string{"+ print 0"}},
		{nil, align.Region{FromA: 0, ToA: 2, FromB: 0, ToB: 2}, []string{"- print 0", "- print 1", "+ print 0", "+ print 24"}},
		{pairs(2, 3), align.Region{FromA: 1, ToA: 5, FromB: 2, ToB: 6}, []string{"- print 1", "+ print 1", "  print 2", "- print 23", "- print 3", "+ read 3", "+ print 3"}},
	} {
		if got, e := align.Lines(a, b, c.l, c.r); e != api.OK || !slices.Equal(got, c.want) {
			t.Errorf("%v, %v: %q, %d; want %q", c.l, c.r, got, e, c.want)
		}
	}
}

func TestLinesErrors(t *testing.T) { // P15.5
	a, b := row("ab"), row("abc")
	for _, c := range []struct {
		l []align.Pair
		r align.Region
		e api.Errno
	}{
		{pairs(0, 0, 1, 1), align.Region{FromA: 0, ToA: 2, FromB: 0, ToB: 3}, api.OK},
		{pairs(0, 1), align.Region{}, api.ErrPair},
		{pairs(0, 0, 0, 0), align.Region{}, api.ErrPair},
		{pairs(2, 2), align.Region{}, api.ErrPair},
		{pairs(0, 1), align.Region{FromA: -1}, api.ErrPair},
		{nil, align.Region{FromA: -1, ToA: 0}, api.ErrArg},
		{nil, align.Region{FromB: -1, ToB: 0}, api.ErrArg},
		{nil, align.Region{FromA: 1, ToA: 0}, api.ErrArg},
		{nil, align.Region{FromB: 2, ToB: 1}, api.ErrArg},
		{nil, align.Region{ToA: 3}, api.ErrArg},
		{nil, align.Region{ToB: 4}, api.ErrArg},
		{nil, align.Region{FromA: 3, ToA: 3}, api.ErrArg},
		{nil, align.Region{FromA: math.MinInt, ToA: math.MaxInt}, api.ErrArg},
		{nil, align.Region{FromB: math.MaxInt, ToB: math.MinInt}, api.ErrArg},
		{nil, align.Region{FromA: 2, ToA: 2, FromB: 3, ToB: 3}, api.OK},
	} {
		if l, e := align.Lines(a, b, c.l, c.r); e != c.e || e != api.OK && len(l) > 0 {
			t.Errorf("%v, %v: %q, %d; want %d", c.l, c.r, l, e, c.e)
		}
	}
}
