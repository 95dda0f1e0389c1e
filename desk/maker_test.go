package desk_test

import (
	"math/rand/v2"
	"strconv"
	"strings"

	"parallax/api"
	"parallax/check"
	"parallax/sample"
	"parallax/syntax"
)

// writer makes up scripts.
type writer struct {
	r     *rand.Rand
	progs [2]api.Prog
	infos [2]check.Info
	lines []string
}

// script is one of some hundred lines, nearly all of which are right.
func script(r *rand.Rand) []string {
	w := &writer{r: r}
	for range 1 + r.IntN(3) {
		w.programs()
		w.round()
		for range r.IntN(3) {
			w.more()
			w.round()
		}
		w.put("reset")
	}
	return w.lines[:len(w.lines)-r.IntN(2)]
}

func (w *writer) put(words ...string) {
	if w.r.IntN(25) == 0 {
		w.lines = append(w.lines, w.wrong(strings.Join(words, " ")))
	}
	w.lines = append(w.lines, strings.Join(words, " "))
}

// wrong is a line with a thing changed, or one of a few.
func (w *writer) wrong(line string) string {
	k := w.r.IntN(len(line) + 1)
	if strings.HasPrefix(line, "left") || strings.HasPrefix(line, "right") || w.r.IntN(2) == 0 { // what is put behind a source stays there
		return w.of("", " ", "open ", "left", "fuel -2147483649", "every 2147483648", "limit 01", "load 5", "load AA", "load 504c583101", "save", "save middle", "plain", "do", "do foo", "input x", "input 1 ", "x", "do eval left 1 +", "load ", "Reset")
	}
	return line[:k] + w.of("", " ", "x", "0", "\n") + line[min(len(line), k+1):]
}

func (w *writer) of(l ...string) string { return l[w.r.IntN(len(l))] }

func (w *writer) number(from, to int) string { return strconv.Itoa(from + w.r.IntN(to-from)) }

// side is a side's word.
func (w *writer) side() string { return w.of("left", "right", "both") }

// programs puts two programs down in pieces; the second one often is the first one with a thing or two changed.
func (w *writer) programs() {
	w.progs = [2]api.Prog{sample.Prog(w.r.IntN), sample.Prog(w.r.IntN)}
	if w.r.IntN(3) > 0 {
		w.progs[1] = w.progs[0]
	}
	for range w.r.IntN(20) {
		p := sample.Bent(w.r.IntN, w.progs[1])
		if _, _, e := check.Check(p); e == api.OK {
			w.progs[1] = p
		}
	}
	if w.r.IntN(12) == 0 {
		w.progs[w.r.IntN(2)] = sample.Bent(w.r.IntN, w.progs[1])
	}
	var rest [2][]string
	for i, p := range w.progs {
		w.infos[i], _, _ = check.Check(p)
		text, _ := syntax.Print(p)
		rest[i] = strings.Split(text, " ")
	}
	for len(rest[0])+len(rest[1]) > 0 {
		i := w.r.IntN(2)
		k := w.r.IntN(len(rest[i]) + 1)
		words := []string{"left", "right"}[i : i+1 : i+1]
		w.put(append(words, rest[i][:k]...)...)
		rest[i] = rest[i][k:]
		if w.r.IntN(4) == 0 {
			w.setting()
		}
		if k == 0 {
			w.put(words[0], "# } print 1 ;")
		}
	}
}

// setting puts a number, a build, or some of the input.
func (w *writer) setting() {
	switch w.r.IntN(9) {
	case 0, 1:
		w.put("fuel", w.of(w.number(-1, 9), w.number(9, 200), w.number(9, 200), "1048577"))
	case 2:
		w.put(w.of("every", "room"), w.number(0, 40))
	case 3:
		w.put("limit", w.number(-2, 90))
	case 4, 5:
		w.put(w.of("plain", "lean"), w.side())
	case 6:
		l := []string{"input"}
		for range w.r.IntN(5) {
			l = append(l, w.number(-3, 9))
		}
		if w.r.IntN(60) == 0 {
			for range 900 {
				l = append(l, "1")
			}
		}
		w.put(l...)
	case 7:
		l := []byte{80, 76, 88, 49, 1, byte(w.r.IntN(5))}
		for range w.r.IntN(5) {
			l = append(l, byte(w.r.IntN(128)))
		}
		w.put(load(closed(l...)))
	case 8:
		w.put("save", w.side())
	}
}

// variable is a procedure of a side and one of its variables.
func (w *writer) variable(side int) (string, string) {
	if len(w.infos[side].Vars) == 0 {
		return "main", "x"
	}
	k := w.r.IntN(len(w.infos[side].Vars))
	l := w.infos[side].Vars[k]
	if len(l) == 0 {
		return w.progs[side].Procs[k].Name, "x"
	}
	return w.progs[side].Procs[k].Name, l[w.r.IntN(len(l))].Name
}

// more declares something, or changes something, between two rounds.
func (w *writer) more() {
	for range 1 + w.r.IntN(3) {
		i := w.r.IntN(2)
		side := []string{"left", "right"}[i]
		p, v := w.variable(i)
		switch w.r.IntN(6) {
		case 0:
			w.put("decl", "break", side, p, w.number(0, 6), ";")
		case 1:
			w.put("decl", "keep", side, p, v, ";")
			w.put("decl", "watch", side, p, v, ";")
		case 2:
			w.put("decl", "pair", p, p, "; same", p, "(", v, ")", p, "(", v, ") ;")
		default:
			w.setting()
		}
	}
}

// round opens, and does a few things.
func (w *writer) round() {
	w.put("open")
	for range 4 + w.r.IntN(12) {
		i := w.r.IntN(2)
		side := []string{"left", "right"}[i]
		p, v := w.variable(i)
		switch w.r.IntN(9) {
		case 0:
			w.put("do", w.of("diverge", "agree", "resync", "report"))
		case 1:
			w.put("do", w.of("step", "back", "goto", "list"), w.side(), w.number(-1, 30))
		case 2:
			w.put("do", "eval", w.side(), v, w.of("", " + 1", " < 3"))
		case 3:
			w.put("do", "break", side, p, w.number(0, 6))
		case 4:
			w.put("do", "watch", side, p, v)
		case 5:
			w.setting()
		case 6:
			w.put("save", w.side())
		default:
			w.put("do", w.of("where", "next", "rnext", "finish", "rfinish", "run", "rrun", "stack", "events"), w.side())
		}
	}
}
