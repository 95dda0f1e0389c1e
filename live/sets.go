package live

import "parallax/api"

// set is a set of variables, by their numbers. Check takes no procedure that has more of them.
type set [api.MaxVars]bool

func (s *set) put(i int) {
	if i < len(s) {
		s[i] = true
	}
}

func (s *set) drop(i int) {
	if 0 <= i && i < len(s) {
		s[i] = false
	}
}

func (s *set) has(i int) bool { return i < len(s) && s[i] }

func (s *set) join(t set) {
	for i, in := range t {
		s[i] = s[i] || in
	}
}

// row tells of each of so many variables whether it is in the set.
func (s *set) row(n int) []bool {
	l := make([]bool, n)
	copy(l, s[:])
	return l
}
