package calls_test

import (
	"math/rand/v2"
	"slices"
	"strconv"
	"strings"
	"testing"

	"parallax/api"
)

// perStmt is how many picks a statement is made by: a changed pick changes no other statement.
const perStmt = 5

// picks are by what a program of many calls is made.
type picks []int

func somePicks(r *rand.Rand) picks {
	l := make(picks, 12+perStmt*24)
	for i := range l {
		l[i] = r.IntN(1 << 20)
	}
	return l
}

// changed are picks of which some are other ones.
func (l picks) changed(r *rand.Rand, n int) picks {
	l = slices.Clone(l)
	for range n {
		l[r.IntN(len(l))] = r.IntN(1 << 20)
	}
	return l
}

// caller makes a program of procedures main, f, g, h, each of which calls those behind it, and at times itself.
type caller struct {
	heads []string // what each answers
	picks
	at int
}

func (c *caller) pick(n int) int {
	c.at++
	return c.picks[(c.at-1)%len(c.picks)] % n
}

func (l picks) prog(t *testing.T) api.Prog {
	t.Helper()
	c := caller{heads: []string{"", "", "", ""}, picks: l}
	for i := range c.heads[1:] {
		c.heads[i+1] = []string{"", "int", "bool", "int"}[c.pick(4)]
	}
	var s []string
	for k := range c.heads {
		s = append(s, c.proc(k))
	}
	last := c.pick(4) // main need not be the first one
	s[0], s[last] = s[last], s[0]
	return program(t, strings.Join(s, " "))
}

func name(k int) string { return []string{"main", "f", "g", "h"}[k] }

func (c *caller) proc(k int) string {
	s := "proc " + name(k) + " ( int a , bool b ) " + c.heads[k] + " { var i ;"
	if k == 0 {
		s = "proc main ( ) { var a ; var bool b ; var i ;"
	}
	c.at = 12 + perStmt*6*k
	for range 1 + c.pick(5) {
		s += " " + c.stmt(k)
	}
	switch c.heads[k] {
	case "int":
		s += " return a ;"
	case "bool":
		s += " return b ;"
	}
	return s + " }"
}

func (c *caller) stmt(k int) string {
	kind, n, m := c.pick(10), c.pick(5), c.pick(4)
	call := c.call(k, c.pick(4), c.pick(4))
	switch kind {
	case 0:
		return "a = a + " + strconv.Itoa(n) + " ;"
	case 1:
		return []string{"b = ! b ;", "b = a < 2 ;", "read a ;", "print a ;", "assert a < 9 ;"}[n]
	case 2:
		return "if ( b ) { " + call + " } else { a = a - 1 ; " + call + " }"
	case 3:
		return "i = 0 ; while ( i < " + strconv.Itoa(m) + " ) { " + call + " i = i + 1 ; }"
	case 4:
		if k > 0 { // one that ends, as a grows less
			return "if ( 0 < a && a < 4 ) { " + c.to(k, "a - 1") + " }"
		}
	}
	return call
}

// call is a call of a procedure behind the k-th one, or what is done where there is none.
func (c *caller) call(k, which, n int) string {
	if k == len(c.heads)-1 {
		return "a = a * 2 ;"
	}
	return c.to(k+1+which%(len(c.heads)-1-k), "a + "+strconv.Itoa(n))
}

// to is a call of a procedure, that takes its answer.
func (c *caller) to(k int, a string) string {
	s := name(k) + " ( " + a + " , b ) ;"
	switch c.heads[k] {
	case "int":
		s = "a = " + s
	case "bool":
		s = "b = " + s
	}
	return s
}
