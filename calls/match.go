package calls

import (
	"slices"

	"parallax/align"
	"parallax/api"
)

// What stands in the place of a pair's number for calls of procedures that are in none: those of one run are not the same as any of the other.
const (
	unpairedA = -1
	unpairedB = -2
)

// counted are the pairs that count: of each run's procedures the number of their pair.
func counted(pairs [][2]int) (first, second map[int]int) {
	first, second = map[int]int{}, map[int]int{}
	for i, p := range pairs {
		_, a := first[p[0]]
		_, b := second[p[1]]
		if !a && !b {
			first[p[0]], second[p[1]] = i, i
		}
	}
	return first, second
}

// run is the calls of a run, as they are matched.
type run struct {
	pairs []int   // of each call the number of its procedure's pair
	kids  [][]int // of each call the numbers of those made in it
}

// runOf is the run of some calls. What a call was made in stands ahead of it; calls of which this is not so are no run's, and made in none.
func runOf(l []Call, pairs map[int]int, unpaired int) run {
	r := run{make([]int, len(l)), make([][]int, len(l))}
	for i, c := range l {
		pair, ok := pairs[c.Proc]
		if !ok {
			pair = unpaired
		}
		r.pairs[i] = pair
		if 0 <= c.Up && c.Up < i {
			r.kids[c.Up] = append(r.kids[c.Up], i)
		}
	}
	return r
}

// row is the calls made in one as events: a pair's number makes two of them the same.
func (r run) row(k int) []api.Event {
	var l []api.Event
	for _, kid := range r.kids[k] {
		l = append(l, api.Event{N: int64(r.pairs[kid])})
	}
	return l
}

// matcher matches the calls of two runs.
type matcher struct {
	a, b  run
	limit int
}

// pairs is the matching of the calls, and whether it is truncated. Calls that were made in others stand behind these: when the first run's are gone through in order, each one's partner is known.
func (m matcher) pairs() ([]align.Pair, bool) {
	if len(m.a.pairs) == 0 || len(m.b.pairs) == 0 || m.a.pairs[0] != m.b.pairs[0] {
		return nil, false
	}
	partners := slices.Repeat([]int{-1}, len(m.a.pairs))
	visit := func(i, j int) { partners[i] = j }
	visit(0, 0)
	var l []align.Pair
	cut := false
	for i := range partners {
		if j := partners[i]; j >= 0 {
			l = append(l, align.Pair{A: i, B: j})
			cut = m.kids(i, j, visit) || cut
		}
	}
	return l, cut
}

// kids visits the matched ones of the calls made in i and those made in j, and tells whether their matching is truncated.
func (m matcher) kids(i, j int, visit func(i, j int)) bool {
	l, cut := align.Match(m.a.row(i), m.b.row(j), m.limit)
	for _, p := range l {
		visit(m.a.kids[i][p.A], m.b.kids[j][p.B])
	}
	return cut
}
