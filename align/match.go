package align

import (
	"slices"

	"parallax/api"
)

// together is how many events two rows begin with alike.
func together(a, b []api.Event) int {
	n := min(len(a), len(b))
	for i := range n {
		if a[i] != b[i] {
			return i
		}
	}
	return n
}

// above tells whether n times m is above a limit. It divides, as what n times m is may be too great for an int.
func above(n, m, limit int) bool {
	return n > 0 && m > max(limit, 0)/n
}

// matched is the least one of the greatest matchings of two rows.
func matched(a, b []api.Event) []Pair {
	if len(a) == 0 || len(b) == 0 {
		return nil
	}
	s := sizesOf(a, b)
	var l []Pair
	j := 0
	for i, e := range a {
		left := s.row(i)[j]
		if left == 0 {
			break
		}
		// Of the events of b that are the same, the first one leaves the most behind it: if it does not leave enough, none does.
		k := slices.Index(b[j:], e)
		if k >= 0 && s.row(i + 1)[j+k+1] == left-1 {
			l = append(l, Pair{i, j + k})
			j += k + 1
		}
	}
	return l
}

// sizes are those of the greatest matchings of what two rows have from an index on: for each index of a, and the one behind its last, a row of as many numbers as b has indices, and one. They are numbers of 32 bits, as there are so many.
type sizes struct {
	wide int
	all  []int32
}

// row cuts out the numbers of an index of a.
func (s sizes) row(i int) []int32 {
	from, to := i*s.wide, (i+1)*s.wide
	return s.all[from:to:to]
}

func sizesOf(a, b []api.Event) sizes {
	s := sizes{wide: len(b) + 1, all: make([]int32, (len(a)+1)*(len(b)+1))}
	for back := range len(a) {
		i := len(a) - 1 - back
		s.fill(i, a[i], b)
	}
	return s
}

// fill puts down the row of an index of a, that of the next one being there.
func (s sizes) fill(i int, e api.Event, b []api.Event) {
	row, next := s.row(i), s.row(i+1)
	for back := range len(b) {
		j := len(b) - 1 - back
		if e == b[j] {
			row[j] = next[j+1] + 1
		} else {
			row[j] = max(next[j], row[j+1])
		}
	}
}
