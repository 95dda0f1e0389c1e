package desk_test

import (
	"encoding/binary"
	"encoding/hex"
	"fmt"
	"regexp"
	"strconv"
	"strings"

	"parallax/api"
	"parallax/check"
	"parallax/fold"
	"parallax/session"
	"parallax/syntax"
	"parallax/tape"
)

// A second reading of the chapter: a desk is the lines that it took since it was as at first; what there is, and the session with all that was done in it, is made of them anew for each answer. Which lines there are is told by patterns, and runs that are saved are histories (5).

type reading struct{ taken []string }

var (
	texts   = regexp.MustCompile(`(?s)\A(left|right|decl) (.*)\z`)
	inputs  = regexp.MustCompile(`\Ainput( (0|-?[1-9][0-9]*))*\z`)
	numbers = regexp.MustCompile(`\A(fuel|every|room|limit) (0|-?[1-9][0-9]*)\z`)
	builds  = regexp.MustCompile(`\A(plain|lean) (left|right|both)\z`)
	saves   = regexp.MustCompile(`\Asave (left|right|both)\z`)
	loads   = regexp.MustCompile(`(?s)\Aload (.*)\z`)
	pairs   = regexp.MustCompile(`\A([0-9a-f][0-9a-f])+\z`)
	does    = regexp.MustCompile(`(?s)\Ado (.*)\z`)
)

// line is what a line answers.
func (d *reading) line(s string) []string {
	switch {
	case s == "reset":
		d.taken = nil
		return []string{"ok"}
	case s == "open":
		d.taken = append(d.taken, s)
		if _, f := session.Open(d.setup()); f.Code != api.OK {
			return []string{fmt.Sprintf("fault %d %d %d", f.Which, f.At, f.Code)}
		}
		return []string{"ok"}
	case does.MatchString(s):
		d.taken = append(d.taken, s)
		return d.last()
	case saves.MatchString(s):
		return d.save(s)
	}
	if e := d.wrong(s); e != "" {
		return []string{e}
	}
	d.taken = append(d.taken, s)
	return []string{"ok"}
}

// wrong is what is wrong with a line that puts something.
func (d *reading) wrong(s string) string {
	before := d.setup()
	switch {
	case texts.MatchString(s):
		m := texts.FindStringSubmatch(s)
		if len(map[string]string{"left": before.Left, "right": before.Right, "decl": before.Decl}[m[1]]+m[2]) >= 1<<15 {
			return "error 2"
		}
	case inputs.MatchString(s):
		for _, w := range strings.Fields(s)[1:] {
			if _, err := strconv.ParseInt(w, 10, 64); err != nil {
				return "error 101"
			}
		}
		if len(before.Input)+strings.Count(s, " ") > 2000 {
			return "error 2"
		}
	case numbers.MatchString(s):
		w := numbers.FindStringSubmatch(s)[2]
		if _, err := strconv.ParseInt(w, 10, 64); err != nil {
			return "error 101"
		}
		if _, err := strconv.ParseInt(w, 10, 32); err != nil {
			return "error 1"
		}
	case loads.MatchString(s):
		text := loads.FindStringSubmatch(s)[1]
		if !pairs.MatchString(text) {
			return "error 61"
		}
		bytes, _ := hex.DecodeString(text)
		if _, at, e := tape.ReadInput(bytes); e != api.OK {
			return fmt.Sprintf("error %d %d", e, at)
		}
	case !builds.MatchString(s):
		return "error 101"
	}
	return ""
}

// setup is what there is, but for how copies are kept, where they may be: they play no part in what is answered.
func (d *reading) setup() session.Setup {
	x := session.Setup{Fuel: 1000, Every: 5, Room: 3, Limit: 10000}
	for _, s := range d.taken {
		if m := texts.FindStringSubmatch(s); m != nil {
			to := map[string]*string{"left": &x.Left, "right": &x.Right, "decl": &x.Decl}[m[1]]
			*to += m[2] + "\n"
		}
		if inputs.MatchString(s) {
			for _, w := range strings.Fields(s)[1:] {
				n, _ := strconv.ParseInt(w, 10, 64)
				x.Input = append(x.Input, n)
			}
		}
		if m := loads.FindStringSubmatch(s); m != nil {
			bytes, _ := hex.DecodeString(m[1])
			x.Input, _, _ = tape.ReadInput(bytes)
		}
		if m := numbers.FindStringSubmatch(s); m != nil {
			n, _ := strconv.Atoi(m[2])
			switch m[1] {
			case "fuel":
				x.Fuel = n
			case "limit":
				x.Limit = n
			case "every":
				x.Every = min(n, 5)
			case "room":
				x.Room = min(n, 3)
			}
		}
		if m := builds.FindStringSubmatch(s); m != nil {
			x.PlainLeft = x.PlainLeft && m[2] == "right" || m[1] == "plain" && m[2] != "right"
			x.PlainRight = x.PlainRight && m[2] == "left" || m[1] == "plain" && m[2] != "left"
		}
	}
	return x
}

// last is what the last line's command is answered by the session of the last open, behind all that was done in it.
func (d *reading) last() []string {
	from := len(d.taken) - 1
	for from >= 0 && d.taken[from] != "open" {
		from--
	}
	if from < 0 {
		return []string{"error 100"}
	}
	s, _ := session.Open((&reading{d.taken[:from]}).setup())
	var l []string
	for _, line := range d.taken[from:] {
		if m := does.FindStringSubmatch(line); m != nil {
			l = s.Do(m[1])
		}
	}
	return l
}

// save is what a line that saves answers.
func (d *reading) save(s string) []string {
	x := d.setup()
	var l []string
	if side := strings.Fields(s)[1]; side != "right" {
		l = append(l, secondSaved(x.Left, x.Input, x.Fuel))
	}
	if side := strings.Fields(s)[1]; side != "left" {
		l = append(l, secondSaved(x.Right, x.Input, x.Fuel))
	}
	return l
}

// secondSaved tells of the tape of a source's history.
func secondSaved(source string, input []int64, fuel int) string {
	p, _, e := syntax.Parse(source)
	if e == api.OK {
		_, _, e = check.Check(p)
	}
	if e == api.OK && (len(input) > api.MaxInput || fuel < 0 || fuel > api.MaxFuel) {
		e = api.ErrArg
	}
	if e != api.OK {
		return fmt.Sprintf("error %d", e)
	}
	h, e := fold.Run(p, input, min(fuel, 4096)) // a history has no more; what is made up ends sooner
	if e != api.OK {
		return "no history"
	}
	return size(tapeOf(h))
}

// tapeOf is a history's tape.
func tapeOf(h fold.History) []byte {
	l, told := []byte{80, 76, 88, 49, 2}, 0
	tell := func(to int) {
		for ; told < to; told++ {
			x := h.Events[told]
			l = append(l, byte(16+x.Kind))
			if x.Kind == api.EvPrint || x.Kind == api.EvRead || x.Kind == api.EvTrap {
				l = binary.AppendVarint(l, x.N)
			}
		}
	}
	for _, p := range h.Pos {
		tell(p.Count)
		l = append(l, byte(p.Tick.Kind))
		for _, n := range []int{p.Tick.Proc, p.Tick.Mark, p.Tick.Depth} {
			l = binary.AppendUvarint(l, uint64(n))
		}
	}
	tell(len(h.Events))
	return closed(append(l, 0)...)
}
