package peep_test

import (
	"slices"
	"strings"

	"parallax/api"
	"parallax/code"
	"parallax/num"
	"parallax/vm"
)

// A second reading of the chapter, for tests against many codes: the rules as lines with letters for numbers, tried one by one from the first place on; a code is cut and joined anew for each, and what numbers leave is asked of a machine.

// scene is a code at a place, and the numbers that the letters of a rule stand for there.
type scene struct {
	api.Code
	heights []int
	words   [][]string // of each instruction's line
	at      int
	says    map[string]int64
}

// lines are those of a rule, each in words.
type lines [][]string

func linesOf(text string) lines {
	var l lines
	for line := range strings.SplitSeq(text, ", ") {
		if line != "" {
			l = append(l, strings.Fields(line))
		}
	}
	return l
}

// reading is a rule: the lines that it takes, what must hold, and the lines that it puts. An instruction behind the first one is no target.
type reading struct {
	number int
	takes  lines
	holds  func(s scene) bool
	puts   lines
}

func rule(number int, takes string, holds func(s scene) bool, puts string) reading {
	return reading{number, linesOf(takes), holds, linesOf(puts)}
}

// list has the rules in their order.
var list = readings()

func always(scene) bool { return true }

// readings are the rules in the list's order; of a rule that names several operations there are several.
func readings() []reading {
	next := func(s scene) bool { return s.says["N"] == int64(s.at)+1 }
	onward := func(s scene) bool {
		i := s.Ins[s.says["N"]]
		s.says["K"] = i.N
		return i.Op == api.OpJump && i.N > s.says["N"]
	}
	l := []reading{
		rule(2, "jump N", next, ""),
		rule(3, "zero N", next, "drop"),
		rule(4, "jump N", onward, "jump K"),
		rule(4, "zero N", onward, "zero K"),
	}
	for _, op := range []string{"neg", "not"} {
		l = append(l, rule(5, "push a, "+op, leaves(op), "push c"))
	}
	for _, op := range []string{"add", "sub", "mul", "less", "most", "same", "div", "mod"} {
		l = append(l, rule(6, "push a, push b, "+op, leaves(op), "push c"))
	}
	sum := func(s scene) bool {
		s.says["L"] = s.says["M"] + s.says["K"]
		return s.says["O"] == s.says["N"]+s.says["M"] && s.says["L"] <= 64
	}
	return append(l, []reading{
		rule(7, "push a, drop", always, ""),
		rule(7, "load x, drop", always, ""),
		rule(8, "push 0, add", always, ""),
		rule(8, "push 0, sub", always, ""),
		rule(8, "push 1, mul", always, ""),
		rule(8, "push 1, div", always, ""),
		rule(9, "load x, store x", always, ""),
		rule(10, "push 0, zero N", always, "jump N"),
		rule(10, "push a, zero N", always, ""),
		rule(11, "push a, test", func(s scene) bool { return s.says["a"] != 0 }, ""),
		rule(12, "clear N M, clear O K", sum, "clear N L"),
	}...)
}

// leaves asks a machine what an operation leaves: that is c.
func leaves(op string) func(scene) bool {
	i, _ := code.Parse(op)
	return func(s scene) bool {
		l := []api.Ins{{Op: api.OpPush, N: s.says["a"]}, {Op: api.OpPush, N: s.says["b"]}, i, {Op: api.OpPrint}, {Op: api.OpLeave}}
		if _, two := s.says["b"]; !two {
			l = slices.Delete(l, 1, 2)
		}
		m, _ := vm.New([]api.Code{{Ins: l}}, 0, nil, 1)
		m.Step()
		s.says["c"] = m.Events()[0].N
		return m.Events()[0].Kind == api.EvPrint
	}
}

// isLetter tells whether a word of a rule's line stands for a number.
func isLetter(word string) bool { return len(word) == 1 && (word[0] < '0' || word[0] > '9') }

// matches holds the instruction at a place against a rule's line, and takes down what its letters stand for.
func (s scene) matches(at int, line []string) bool {
	is := s.words[at]
	if len(is) != len(line) {
		return false
	}
	for k, word := range line {
		if !isLetter(word) {
			if word != is[k] {
				return false
			}
			continue
		}
		n, _ := num.Parse(is[k])
		if was, ok := s.says[word]; ok && was != n {
			return false
		}
		s.says[word] = n
	}
	return true
}

// isTarget tells whether a jump or a zero that can be reached leads to a place.
func (s scene) isTarget(at int) bool {
	for from, i := range s.Ins {
		if (i.Op == api.OpJump || i.Op == api.OpZero) && i.N == int64(at) && s.heights[from] >= 0 {
			return true
		}
	}
	return false
}

// fits tells whether a rule fits.
func (s scene) fits(r reading) bool {
	if s.at+len(r.takes) > len(s.Ins) {
		return false
	}
	clear(s.says)
	for k, line := range r.takes {
		if !s.matches(s.at+k, line) || k > 0 && s.isTarget(s.at+k) {
			return false
		}
	}
	return r.holds(s)
}

// put are the instructions that a rule puts.
func (s scene) put(r reading) []api.Ins {
	var l []api.Ins
	for _, line := range r.puts {
		words := slices.Clone(line)
		for k, word := range words {
			if isLetter(word) {
				words[k] = num.Text(s.says[word])
			}
		}
		i, _ := code.Parse(num.Join(words...))
		l = append(l, i)
	}
	return l
}

// sceneOf is the code k at its first place, if it has heights.
func sceneOf(l []api.Code, k int) (scene, bool) {
	heights, ok := code.Heights(l, k)
	if !ok {
		return scene{}, false
	}
	s := scene{Code: l[k], heights: heights, says: map[string]int64{}}
	for _, i := range s.Ins {
		text, _ := code.Text(i)
		s.words = append(s.words, strings.Fields(text))
	}
	return s, true
}

// first is the first rule that fits at a place, how many instructions it takes and what it puts.
func (s scene) first(at int) (number, takes int, puts []api.Ins) {
	if at < 0 || at >= len(s.Ins) {
		return 0, 0, nil
	}
	if s.heights[at] < 0 {
		return 1, 1, nil
	}
	s.at = at
	for _, r := range list {
		if s.fits(r) {
			return r.number, len(r.takes), s.put(r)
		}
	}
	return 0, 0, nil
}

// doneOnce is the code k with one rule done, the number of that one and its place; 0, if none fits.
func doneOnce(l []api.Code, k int) (c api.Code, number, at int) {
	s, ok := sceneOf(l, k)
	if !ok {
		return api.Code{}, 0, 0
	}
	for at := range s.Ins {
		number, takes, puts := s.first(at)
		if number == 0 {
			continue
		}
		c := l[k]
		c.Ins = slices.Concat(s.Ins[:at], puts, s.Ins[at+takes:])
		for p, i := range c.Ins {
			if i.Op != api.OpJump && i.Op != api.OpZero {
				continue
			}
			switch to := int(i.N); {
			case to >= at+takes:
				c.Ins[p].N = int64(to - takes + len(puts))
			case to >= at:
				c.Ins[p].N = int64(at)
			}
		}
		return c, number, at
	}
	return l[k], 0, 0
}

// step is a rule that was done, and where.
type step struct{ rule, at int }

// doneAll are codes made short, and the rules that were done on the way.
func doneAll(l []api.Code) ([]api.Code, []step) {
	var steps []step
	short := slices.Clone(l)
	for k := range l {
		for {
			c, number, at := doneOnce(short, k)
			if number == 0 {
				break
			}
			short[k] = c
			steps = append(steps, step{number, at})
		}
	}
	return short, steps
}
