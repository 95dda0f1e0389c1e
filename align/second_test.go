package align_test

import (
	"slices"
	"strconv"

	"parallax/align"
	"parallax/api"
)

// A second reading of the chapter: all matchings of short rows are gone through; of longer rows sizes are told from the front; regions, hunks and lines are told of columns, that each are a pair, an event of a, or one of b.

// less tells whether one matching is less than another one of its size.
func less(x, y []align.Pair) bool {
	for k := range x {
		if x[k] != y[k] {
			return x[k].A < y[k].A || x[k].A == y[k].A && x[k].B < y[k].B
		}
	}
	return false
}

// everyMatching calls visit with each matching of the rows, from the index i of a and j of b on, behind those pairs.
func everyMatching(a, b []api.Event, i, j int, l []align.Pair, visit func([]align.Pair)) {
	visit(l)
	for p := i; p < len(a); p++ {
		for q := j; q < len(b); q++ {
			if a[p].Kind == b[q].Kind && a[p].N == b[q].N {
				everyMatching(a, b, p+1, q+1, append(slices.Clip(l), align.Pair{A: p, B: q}), visit)
			}
		}
	}
}

// bestOfAll is the least of the greatest matchings of short rows.
func bestOfAll(a, b []api.Event) []align.Pair {
	var best []align.Pair
	everyMatching(a, b, 0, 0, nil, func(l []align.Pair) {
		if len(l) > len(best) || len(l) == len(best) && less(l, best) {
			best = l
		}
	})
	return best
}

// greatest is the size of the greatest matchings of two rows.
func greatest(a, b []api.Event) int {
	size := make([]int, len(b)+1) // of what is gone through of a, with the first j of b
	for _, e := range a {
		corner := 0
		for j, f := range b {
			above := size[j+1]
			if e == f {
				size[j+1] = corner + 1
			} else {
				size[j+1] = max(size[j+1], size[j])
			}
			corner = above
		}
	}
	return size[len(b)]
}

// column is a pair, an event of a (B is -1), or one of b (A is -1).
type column = align.Pair

// columns are all that two rows of n and m have, in order.
func columns(n, m int, l []align.Pair) []column {
	var all []column
	i, j := 0, 0
	fill := func(a, b int) {
		for ; i < a; i++ {
			all = append(all, column{A: i, B: -1})
		}
		for ; j < b; j++ {
			all = append(all, column{A: -1, B: j})
		}
	}
	for _, p := range l {
		fill(p.A, p.B)
		all = append(all, p)
		i, j = p.A+1, p.B+1
	}
	fill(n, m)
	return all
}

// runs are the regions of columns that lie together and are marked.
func runs(all []column, marked []bool) []align.Region {
	var l []align.Region
	i, j, open := 0, 0, false
	for k, c := range all {
		if marked[k] && !open {
			l = append(l, align.Region{FromA: i, FromB: j})
		}
		if open = marked[k]; c.A >= 0 {
			i++
		}
		if c.B >= 0 {
			j++
		}
		if open {
			l[len(l)-1].ToA, l[len(l)-1].ToB = i, j
		}
	}
	return l
}

// hunksOf are the hunks of a matching: columns that have one that is no pair at most c pairs away.
func hunksOf(n, m int, l []align.Pair, c int) []align.Region {
	all := columns(n, m, l)
	marked := make([]bool, len(all))
	for k, x := range all {
		if x.A >= 0 && x.B >= 0 {
			continue
		}
		marked[k] = true
		for _, step := range []int{-1, 1} {
			pairs := 0
			for at := k + step; at >= 0 && at < len(all) && all[at].A >= 0 && all[at].B >= 0 && pairs < c; at += step {
				marked[at] = true
				pairs++
			}
		}
	}
	return runs(all, marked)
}

func textOf(e api.Event) string {
	n := strconv.FormatInt(e.N, 10)
	if word, ok := map[int]string{api.EvPrint: "print " + n, api.EvRead: "read " + n, api.EvEnd: "end", api.EvTrap: "trap " + n, api.EvFuel: "fuel"}[e.Kind]; ok {
		return word
	}
	return "event " + strconv.Itoa(e.Kind) + " " + n
}

// linesOf are the lines of a region: the columns of what it has by itself.
func linesOf(a, b []api.Event, l []align.Pair, r align.Region) []string {
	var own []align.Pair
	for _, p := range l {
		if p.A >= r.FromA && p.A < r.ToA && p.B >= r.FromB && p.B < r.ToB {
			own = append(own, align.Pair{A: p.A - r.FromA, B: p.B - r.FromB})
		}
	}
	var lines []string
	for _, c := range columns(r.ToA-r.FromA, r.ToB-r.FromB, own) {
		switch {
		case c.B < 0:
			lines = append(lines, "- "+textOf(a[r.FromA+c.A]))
		case c.A < 0:
			lines = append(lines, "+ "+textOf(b[r.FromB+c.B]))
		default:
			lines = append(lines, "  "+textOf(b[r.FromB+c.B]))
		}
	}
	return lines
}
