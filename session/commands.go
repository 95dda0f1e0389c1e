package session

import (
	"math"

	"parallax/api"
	"parallax/num"
)

// What is answered that is neither a place nor a value.
const (
	fine = "ok"
	none = "none"
)

// failed is what a command is answered that can not be done.
func failed(e api.Errno) []string { return []string{num.Join("error", num.Text(int64(e)))} }

// sidesOf are the sides of a word, the left one first; none of a word that is none's.
func (o *opened) sidesOf(word string) []*side {
	switch word {
	case "left":
		return o.both[left : left+1]
	case "right":
		return o.both[right : right+1]
	case "both":
		return o.both[:]
	}
	return nil
}

// together is what a command answers that takes both sides as one.
func (o *opened) together(word string) []string {
	switch word {
	case "diverge":
		return o.diverge()
	case "agree":
		return o.agree()
	case "resync":
		return o.resync()
	case "report":
		return o.report()
	}
	return failed(api.ErrLine)
}

// deed does a command on a side, and tells what it answers.
type deed func(x *side) []string

// deedOf is that of a command on so many sides, more telling whether a text stands behind the side's word. Of what is no command there is none.
func (o *opened) deedOf(word, text string, more bool, many int) deed {
	if !more {
		return bare(word)
	}
	switch word {
	case "eval":
		return func(x *side) []string { return x.eval(text) }
	case "break", "watch":
		if text == "" || many > 1 {
			return nil
		}
		return func(x *side) []string { return o.declare(x, word, text) }
	}
	n, e := num.Parse(text)
	if e != api.OK {
		return nil
	}
	return counted(word, within(n))
}

// within is a number of positions or rows as an int: there never are so many that a greater one says more.
func within(n int64) int { return int(min(max(n, -1), math.MaxInt32)) }

// bare is a command with a side alone.
func bare(word string) deed {
	switch word {
	case "where":
		return (*side).where
	case "stack":
		return (*side).stack
	case "events":
		return (*side).events
	case "clear":
		return (*side).clear
	}
	return ranging(word)
}

// ranging is a command that goes as far as something holds.
func ranging(word string) deed {
	switch word {
	case "next":
		return func(x *side) []string { x.Next(x.shallow(0)); return x.where() }
	case "rnext":
		return func(x *side) []string { x.Prev(x.shallow(0)); return x.where() }
	case "finish":
		return func(x *side) []string { x.Next(x.shallow(1)); return x.where() }
	case "rfinish":
		return func(x *side) []string { x.Prev(x.shallow(1)); return x.where() }
	case "run":
		return func(x *side) []string { return x.goTo(searchOf(x).next()) }
	case "rrun":
		return func(x *side) []string { return x.goTo(searchOf(x).last()) }
	}
	return nil
}

// counted is a command with a side and a number.
func counted(word string, n int) deed {
	switch word {
	case "step":
		return func(x *side) []string { return x.goTo(x.At() + min(max(n, 0), x.End()-x.At())) }
	case "back":
		return func(x *side) []string { return x.goTo(x.At() - min(max(n, 0), x.At())) }
	case "goto":
		return func(x *side) []string { return x.goTo(n) }
	case "list":
		return func(x *side) []string { return x.list(n) }
	}
	return nil
}
