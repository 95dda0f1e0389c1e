package desk

import (
	"strings"

	"parallax/api"
	"parallax/gen"
	"parallax/num"
	"parallax/syntax"
	"parallax/tape"
)

// save tells of the tapes of a word's sides.
func (d *Desk) save(side string) []string {
	left, right := sides(side)
	var l []string
	if left {
		l = append(l, d.saved(d.setup.Left)...)
	}
	if right {
		l = append(l, d.saved(d.setup.Right)...)
	}
	if l == nil {
		return failed(api.ErrLine)
	}
	return l
}

// saved tells of the tape of what a source does.
func (d *Desk) saved(source string) []string {
	b, e := d.record(source)
	if e != api.OK {
		return failed(e)
	}
	return []string{num.Join("bytes", num.Text(int64(len(b))), "sum", num.Text(int64(tape.Sum(b))))}
}

// record is the tape of what a source does.
func (d *Desk) record(source string) ([]byte, api.Errno) {
	p, _, e := syntax.Parse(source)
	if e != api.OK {
		return nil, e
	}
	b, _, e := gen.Compile(p, nil, true)
	if e != api.OK {
		return nil, e
	}
	t, e := tape.Record(b, d.setup.Input, d.setup.Fuel)
	if e != api.OK {
		return nil, e
	}
	return tape.WriteTrace(t)
}

// load takes the input from a tape.
func (d *Desk) load(text string) []string {
	b, ok := bytesOf(text)
	if !ok {
		return failed(api.ErrText)
	}
	l, at, e := tape.ReadInput(b)
	if e != api.OK {
		return told("error", int(e), at)
	}
	d.setup.Input = l
	return done()
}

// bytesOf are bytes that are written as two digits each, one at the least.
func bytesOf(text string) ([]byte, bool) {
	if text == "" || len(text)%2 > 0 {
		return nil, false
	}
	var b []byte
	for k := 0; k < len(text); k += 2 {
		high, low := strings.IndexByte(hex, text[k]), strings.IndexByte(hex, text[k+1])
		if high < 0 || low < 0 {
			return nil, false
		}
		b = append(b, byte(high*len(hex)+low))
	}
	return b, true
}

// hex are the digits of a byte.
const hex = "0123456789abcdef"
