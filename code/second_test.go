package code_test

import (
	"strconv"
	"strings"

	"parallax/api"
)

// A second reading of the chapter, for tests against many codes: its table as a text, and all places with all heights at which they can be come to, one by one.

// table has, of each operation, its line, what it takes and leaves, and what N and M must be.
const table = `
push N     | 0 1 | any
load N     | 0 1 | cells N 1
store N    | 1 0 | cells N 1
index N M  | 1 1 | cells N M
put N M    | 2 0 | cells N M
clear N M  | 0 0 | cells N M
add        | 2 1 |
sub        | 2 1 |
mul        | 2 1 |
div        | 2 1 |
mod        | 2 1 |
less       | 2 1 |
most       | 2 1 |
same       | 2 1 |
not        | 1 1 |
neg        | 1 1 |
jump N     | 0 0 | place
zero N     | 1 0 | place
call N M   | M ? | procedure
leave N    | N 0 | answer
print      | 1 0 |
read       | 0 1 |
test       | 1 0 |
mark N M   | 0 0 | mark
drop       | 1 0 |`

// row is a line of the table.
type row struct{ line, moves, must []string }

func rowOf(op int) (row, bool) {
	rows := strings.Split(table, "\n")
	if op < 1 || op >= len(rows) {
		return row{}, false
	}
	parts := strings.Split(rows[op], "|")
	return row{strings.Fields(parts[0]), strings.Fields(parts[1]), strings.Fields(parts[2] + " none")}, true
}

// lineOf is an instruction's line, if it has one.
func lineOf(i api.Ins) (string, bool) {
	r, ok := rowOf(i.Op)
	if !ok || i.N != 0 && len(r.line) < 2 || i.M != 0 && len(r.line) < 3 {
		return "", false
	}
	s := strings.Join(r.line, " ")
	s = strings.Replace(s, " N", " "+strconv.FormatInt(i.N, 10), 1)
	return strings.Replace(s, " M", " "+strconv.FormatInt(i.M, 10), 1), true
}

// isOneOf tells whether a number is from 0 to n - 1.
func isOneOf(k int64, n int) bool { return k >= 0 && uint64(k) < uint64(max(n, 0)) }

// mayStand tells whether an instruction is as the table says.
func mayStand(l []api.Code, c api.Code, i api.Ins) bool {
	if _, ok := lineOf(i); !ok {
		return false
	}
	r, _ := rowOf(i.Op)
	switch r.must[0] {
	case "cells":
		size := i.M
		if r.must[2] == "1" {
			size = 1
		}
		if size < 1 || size > 64 {
			return false
		}
		for k := range size {
			if i.N > 1<<20 || !isOneOf(i.N+k, c.Cells) {
				return false
			}
		}
	case "place":
		return isOneOf(i.N, len(c.Ins))
	case "procedure":
		return isOneOf(i.N, len(l)) && int64(l[i.N].Params) == i.M && i.M >= 0
	case "answer":
		return i.N == 0 && !c.Answers || i.N == 1 && c.Answers
	case "mark":
		return i.N >= 0 && isOneOf(i.M-1, 3)
	}
	return true
}

// how many numbers a word of the table says.
func many(l []api.Code, i api.Ins, word string) int {
	switch word {
	case "N":
		return int(i.N)
	case "M":
		return int(i.M)
	case "?":
		if l[i.N].Answers {
			return 1
		}
		return 0
	}
	n, _ := strconv.Atoi(word)
	return n
}

// state is a place, and a height at which it is come to.
type state struct{ place, height int }

// next are the states behind one, and whether it may be.
func next(l []api.Code, c api.Code, s state) ([]state, bool) {
	if !isOneOf(int64(s.place), len(c.Ins)) || s.height > 4096 {
		return nil, false
	}
	i := c.Ins[s.place]
	r, _ := rowOf(i.Op)
	rest := s.height - many(l, i, r.moves[0])
	if rest < 0 {
		return nil, false
	}
	then := rest + many(l, i, r.moves[1])
	switch r.line[0] {
	case "jump":
		return []state{{int(i.N), then}}, true
	case "zero":
		return []state{{int(i.N), then}, {s.place + 1, then}}, true
	case "leave":
		return nil, rest == 0
	case "mark":
		return []state{{s.place + 1, then}}, rest == 0
	}
	return []state{{s.place + 1, then}}, true
}

// levels are the heights of a code, and whether it is as it must be.
func levels(l []api.Code, k int) ([]int, bool) {
	if !isOneOf(int64(k), len(l)) {
		return nil, false
	}
	c := l[k]
	if len(c.Ins) == 0 || len(c.Ins) > 65536 || c.Cells < 0 || c.Cells > 65536 || c.Params < 0 || c.Params > 8 || c.Params > c.Cells {
		return nil, false
	}
	for _, i := range c.Ins {
		if !mayStand(l, c, i) {
			return nil, false
		}
	}
	at := map[int]int{0: 0}
	row := []state{{}}
	for k := 0; k < len(row); k++ {
		more, ok := next(l, c, row[k])
		if !ok {
			return nil, false
		}
		for _, s := range more {
			h, seen := at[s.place]
			if seen && h != s.height {
				return nil, false
			}
			if !seen {
				at[s.place] = s.height
				row = append(row, s)
			}
		}
	}
	var all []int
	for place := range c.Ins {
		h, seen := at[place]
		if !seen {
			h = -1
		}
		all = append(all, h)
	}
	return all, true
}

// isSound tells whether codes are sound.
func isSound(l []api.Code, main int) bool {
	if !isOneOf(int64(main), len(l)) || len(l) > 40 || l[main].Params != 0 || l[main].Answers {
		return false
	}
	for k := range l {
		if _, ok := levels(l, k); !ok {
			return false
		}
	}
	return true
}
