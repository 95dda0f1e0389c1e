package align

import "parallax/api"

// rise tells whether the indices of pairs rise in both rows, from 0 on, below n and m.
func rise(n, m int, l []Pair) bool {
	last := Pair{-1, -1}
	for _, p := range l {
		if p.A <= last.A || p.A >= n || p.B <= last.B || p.B >= m {
			return false
		}
		last = p
	}
	return true
}

// gaps are the regions of pairs that rise.
func gaps(n, m int, l []Pair) []Region {
	var all []Region
	var r Region
	until := func(a, b int) {
		r.ToA, r.ToB = a, b
		if r.FromA < r.ToA || r.FromB < r.ToB {
			all = append(all, r)
		}
	}
	for _, p := range l {
		until(p.A, p.B)
		r = Region{FromA: p.A + 1, FromB: p.B + 1}
	}
	until(n, m)
	return all
}

// hunks are regions with up to c pairs about them, n being how many events a has. Between any two regions, ahead of the first and behind the last there are pairs alone: how many they are is told by their indices in a.
func hunks(n int, l []Region, c int) []Region {
	var all []Region
	ahead := 0 // where the pairs ahead of a region begin
	for k, r := range l {
		behind := n
		if k+1 < len(l) {
			behind = l[k+1].FromA
		}
		before, after := min(c, r.FromA-ahead), min(c, behind-r.ToA)
		wide := Region{r.FromA - before, r.ToA + after, r.FromB - before, r.ToB + after}
		if k > 0 && r.FromA-ahead-c <= c { // at most 2 c, which may be too great for an int
			last := &all[len(all)-1]
			last.ToA, last.ToB = wide.ToA, wide.ToB
		} else {
			all = append(all, wide)
		}
		ahead = r.ToA
	}
	return all
}

// lies tells whether indices rise, and do not leave a row of n.
func lies(from, to, n int) bool { return 0 <= from && from <= to && to <= n }

// inside are the pairs of which both indices are in a region.
func inside(l []Pair, r Region) []Pair {
	var all []Pair
	for _, p := range l {
		if r.FromA <= p.A && p.A < r.ToA && r.FromB <= p.B && p.B < r.ToB {
			all = append(all, p)
		}
	}
	return all
}

// lines are those of a region that has these pairs.
func lines(a, b []api.Event, l []Pair, r Region) []string {
	var all []string
	put := func(sign string, events []api.Event) {
		for _, e := range events {
			all = append(all, sign+" "+Text(e))
		}
	}
	i, j := r.FromA, r.FromB
	for _, p := range l {
		put("-", a[i:p.A])
		put("+", b[j:p.B])
		put(" ", a[p.A:p.A+1])
		i, j = p.A+1, p.B+1
	}
	put("-", a[i:r.ToA])
	put("+", b[j:r.ToB])
	return all
}
