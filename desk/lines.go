package desk

import (
	"math"

	"parallax/api"
	"parallax/num"
	"parallax/session"
)

// How much a desk takes: more than can be opened, so that what is too long is told there, too.
const (
	maxText  = 1 << 15
	maxInput = 2000
)

// told is a line of a word and numbers.
func told(word string, numbers ...int) []string {
	words := []string{word}
	for _, n := range numbers {
		words = append(words, num.Text(int64(n)))
	}
	return []string{num.Join(words...)}
}

// failed is what is answered that can not be done.
func failed(e api.Errno) []string { return told("error", int(e)) }

// done is what is answered that has no more to tell.
func done() []string { return told("ok") }

// alone is what a line of one word answers.
func (d *Desk) alone(word string) []string {
	switch word {
	case "open":
		return d.open()
	case "reset":
		*d = *New()
		return done()
	}
	return failed(api.ErrLine)
}

// open opens a session, of which there is none behind a fault.
func (d *Desk) open() []string {
	s, f := session.Open(d.setup)
	d.session = s
	if f.Code != api.OK {
		return told("fault", f.Which, f.At, int(f.Code))
	}
	return done()
}

// write puts a line behind a source, or the declarations.
func write(text *string, line string) []string {
	if len(*text)+len(line)+1 > maxText {
		return failed(api.ErrLong)
	}
	*text += line + "\n"
	return done()
}

// read puts numbers behind the input.
func (d *Desk) read(words []string) []string {
	var l []int64
	for _, w := range words {
		n, e := num.Parse(w)
		if e != api.OK {
			return failed(api.ErrLine)
		}
		l = append(l, n)
	}
	if len(d.setup.Input)+len(l) > maxInput {
		return failed(api.ErrLong)
	}
	d.setup.Input = append(d.setup.Input, l...)
	return done()
}

// set sets a number.
func set(to *int, text string) []string {
	n, e := num.Parse(text)
	switch {
	case e != api.OK:
		return failed(api.ErrLine)
	case n < math.MinInt32 || n > math.MaxInt32:
		return failed(api.ErrArg)
	}
	*to = int(n)
	return done()
}

// sides tells which sides a word names.
func sides(word string) (left, right bool) {
	return word == "left" || word == "both", word == "right" || word == "both"
}

// build tells how a side is built.
func (d *Desk) build(side string, plain bool) []string {
	left, right := sides(side)
	if left {
		d.setup.PlainLeft = plain
	}
	if right {
		d.setup.PlainRight = plain
	}
	if !left && !right {
		return failed(api.ErrLine)
	}
	return done()
}
