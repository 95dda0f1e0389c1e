package session

import (
	"parallax/api"
	"parallax/decl"
	"parallax/num"
)

// declare puts a break or a watch to those of a side, if it is one, and fits.
func (o *opened) declare(x *side, word, text string) []string {
	f, _, e := decl.Parse(num.Join(word, x.name(), text, ";"))
	switch {
	case e != api.OK:
		return failed(e)
	case linesOf(f) != 1:
		return failed(api.ErrLine)
	case len(x.breaks)+len(f.Breaks) > api.MaxBreaks || len(x.watches)+len(f.Watches) > api.MaxBreaks:
		return failed(api.ErrLong)
	}
	if _, e := decl.Check(f, o.both[left].build.Prog, o.both[right].build.Prog); e != api.OK {
		return failed(e)
	}
	f.Sames, f.Keeps = o.file.Sames, o.file.Keeps // what is kept was told when the builds were made
	if e := asks(f, x.number, x.build); e != api.OK {
		return failed(e)
	}
	x.breaks, x.watches = append(x.breaks, f.Breaks...), append(x.watches, f.Watches...)
	return []string{fine}
}

// linesOf is how many lines declarations have.
func linesOf(f decl.File) int {
	return len(f.Pairs) + len(f.Sames) + len(f.Keeps) + len(f.Breaks) + len(f.Watches)
}

// clear takes all breaks and watches from a side.
func (x *side) clear() []string {
	x.breaks, x.watches = nil, nil
	return []string{fine}
}
