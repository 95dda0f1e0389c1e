package tape

import "parallax/api"

// place is where a tape is read. It stands at the first byte of what is read next till that is taken, and so at what is wrong, if that is given up.
type place struct {
	bytes []byte
	at    int
}

// head takes the first bytes, as far as there are any.
func (p *place) head(kind byte) {
	want := headOf(kind)
	found := want
	size := copy(found[:], p.bytes)
	if found != want {
		for found[p.at] == want[p.at] {
			p.at++
		}
		panic(api.ErrTape)
	}
	p.at = size
	must(size == len(want), api.ErrShort)
}

// number takes a number.
func (p *place) number() int64 {
	n, next, e := ReadNum(p.bytes, p.at)
	must(e == api.OK, e)
	p.at = next
	return n
}

// count takes a count that is neither too small nor too great; for one that is it gives up with the error given.
func (p *place) count(least, most uint64, wrong api.Errno) int {
	n, next, e := digits(p.bytes, p.at)
	must(e == api.OK, e)
	must(least <= n && n <= most, wrong)
	p.at = next
	return int(n)
}

// end takes the sum of all that was read, and asks that nothing follows.
func (p *place) end() {
	var found sum
	size := copy(found[:], p.bytes[p.at:])
	must(size == len(found), api.ErrShort)
	must(found == sumOf(p.bytes[:p.at]), api.ErrSum)
	p.at += size
	must(p.at == len(p.bytes), api.ErrTape)
}

// inputRead is what was read of an input's tape.
type inputRead struct {
	place
	numbers []int64
}

func (r *inputRead) tape() {
	r.head(inputTape)
	for range r.count(0, api.MaxInput, api.ErrLong) {
		r.numbers = append(r.numbers, r.number())
	}
	r.end()
}

// traceRead is what was read of a trace's tape.
type traceRead struct {
	place
	trace api.Trace
	saved int // the place behind the last record that is whole and right; the records' first place, if there is none
}

func (r *traceRead) tape() {
	r.head(traceTape)
	r.saved = r.at
	for r.record() {
		r.saved = r.at
	}
	r.end()
}

// record takes a record, and tells whether there was one: the byte behind the last one is none.
func (r *traceRead) record() bool {
	must(r.at < len(r.bytes), api.ErrShort)
	kind := int(r.bytes[r.at])
	switch {
	case kind == endRecord:
		r.at++
		return false
	case between(api.MEnter, kind, api.MLeave):
		r.tick(kind)
	case between(api.EvPrint, kind-eventByte, api.EvFuel):
		r.event(kind - eventByte)
	default:
		panic(api.ErrTape)
	}
	return true
}

func (r *traceRead) tick(kind int) {
	first := r.at
	r.at++
	k := api.Tick{
		Kind:  kind,
		Proc:  r.count(0, maxPart, api.ErrTape),
		Mark:  r.count(0, maxPart, api.ErrTape),
		Depth: r.count(1, maxPart, api.ErrTape),
	}
	r.trace.Ticks = put(r, first, r.trace.Ticks, k)
	r.trace.Counts = append(r.trace.Counts, len(r.trace.Events))
}

func (r *traceRead) event(kind int) {
	first := r.at
	r.at++
	v := api.Event{Kind: kind}
	if numbered(kind) {
		v.N = r.number()
	}
	r.trace.Events = put(r, first, r.trace.Events, v)
}

// put puts what a record tells behind what others of its kind tell. Where there is no room the record itself is wrong, from its first byte on.
func put[T any](r *traceRead, first int, l []T, told T) []T {
	if len(l) == maxRecords {
		r.at = first
		panic(api.ErrLong)
	}
	return append(l, told)
}
