package tape_test

import (
	"bytes"
	"fmt"
	"math"
	"reflect"
	"slices"
	"testing"

	"parallax/api"
	"parallax/tape"
)

// alike tells whether two traces are the same; lists without elements are.
func alike(t, u api.Trace) bool {
	return slices.Equal(t.Ticks, u.Ticks) && slices.Equal(t.Counts, u.Counts) && slices.Equal(t.Events, u.Events)
}

// brief is a trace, or how long it is.
func brief(t api.Trace) string {
	if len(t.Ticks)+len(t.Events) > 50 {
		return fmt.Sprintf("%d ticks, %d events", len(t.Ticks), len(t.Events))
	}
	return fmt.Sprint(t)
}

// ended is a trace's tape of records.
func ended(l ...[]byte) []byte {
	return summed(append(slices.Concat(traceHead, slices.Concat(l...)), 0))
}

const most = 1<<31 - 1

// traces are some right ones, with the bytes of their records.
var traces = []struct {
	t api.Trace
	b []byte
}{
	{api.Trace{}, nil},
	{api.Trace{Events: []api.Event{{Kind: api.EvFuel}}}, []byte{21}},
	{api.Trace{Ticks: []api.Tick{{Kind: 1, Proc: 0, Mark: 0, Depth: 1}}, Counts: []int{0}}, []byte{1, 0, 0, 1}},
	{
		api.Trace{
			Ticks:  []api.Tick{{Kind: 1, Proc: 2, Mark: 0, Depth: 1}, {Kind: 2, Proc: 2, Mark: 200, Depth: 1}, {Kind: 3, Proc: 300, Mark: 4, Depth: 128}},
			Counts: []int{0, 0, 2},
			Events: []api.Event{{Kind: api.EvPrint, N: -1}, {Kind: api.EvRead, N: 64}, {Kind: api.EvTrap, N: 5}},
		},
		[]byte{1, 2, 0, 1, 2, 2, 200, 1, 1, 17, 1, 18, 128, 1, 3, 172, 2, 4, 128, 1, 20, 10},
	},
	{
		api.Trace{
			Ticks:  []api.Tick{{Kind: 3, Proc: most, Mark: most, Depth: most}},
			Counts: []int{3},
			Events: []api.Event{{Kind: api.EvEnd}, {Kind: api.EvTrap, N: math.MinInt64}, {Kind: api.EvFuel}, {Kind: api.EvEnd}},
		},
		[]byte{19, 20, 255, 255, 255, 255, 255, 255, 255, 255, 255, 1, 21, 3, 255, 255, 255, 255, 7, 255, 255, 255, 255, 7, 255, 255, 255, 255, 7, 19},
	},
}

func TestWriteTrace(t *testing.T) { // P13.4
	for _, c := range traces {
		b, e := tape.WriteTrace(c.t)
		if want := ended(c.b); e != api.OK || !bytes.Equal(b, want) {
			t.Errorf("WriteTrace(%v) = %v, %d, want %v", c.t, b, e, want)
		}
		if got, at, e := tape.ReadTrace(ended(c.b)); e != api.OK || at != 0 || !alike(got, c.t) {
			t.Errorf("ReadTrace(%v) = %v, %d, %d, want %v", ended(c.b), got, at, e, c.t)
		}
	}
}

// unwritten asks that a trace is not written.
func unwritten(t *testing.T, x api.Trace, want api.Errno) {
	t.Helper()
	if b, e := tape.WriteTrace(x); e != want || len(b) > 0 {
		t.Errorf("WriteTrace(%s) = %d bytes, %d, want %d", brief(x), len(b), e, want)
	}
}

func TestWriteTraceForm(t *testing.T) { // P13.4: each thing that a right trace is
	tick := api.Tick{Kind: 1, Depth: 1}
	says := api.Event{Kind: api.EvPrint, N: 1}
	of := func(counts []int, events int, ticks ...api.Tick) api.Trace {
		return api.Trace{Ticks: ticks, Counts: counts, Events: slices.Repeat([]api.Event{says}, events)}
	}
	for _, x := range []api.Trace{
		of(nil, 0, tick), of([]int{0}, 0), of([]int{0, 0}, 0, tick), of([]int{0}, 0, tick, tick),
		of([]int{-1}, 1, tick), of([]int{2}, 1, tick), of([]int{1, 0}, 1, tick, tick), of([]int{0, 1, 3}, 2, tick, tick, tick),
		of([]int{math.MinInt}, 1, tick), of([]int{math.MaxInt}, 1, tick), of([]int{0, math.MinInt}, 1, tick, tick),
	} {
		unwritten(t, x, api.ErrForm)
	}
	for _, k := range []api.Tick{
		{Kind: 0, Depth: 1}, {Kind: 4, Depth: 1}, {Kind: -1, Depth: 1}, {Kind: 257, Depth: 1}, {Kind: 17, Depth: 1},
		{Kind: 1, Proc: -1, Depth: 1}, {Kind: 1, Proc: most + 1, Depth: 1}, {Kind: 1, Mark: -1, Depth: 1}, {Kind: 1, Mark: most + 1, Depth: 1},
		{Kind: 1, Depth: 0}, {Kind: 1, Depth: -1}, {Kind: 1, Depth: most + 1}, {Kind: 1, Proc: math.MinInt, Depth: 1}, {Kind: 1, Depth: math.MaxInt},
	} {
		unwritten(t, of([]int{0, 0}, 0, tick, k), api.ErrForm)
	}
	for _, v := range []api.Event{{Kind: 0}, {Kind: 6}, {Kind: -1}, {Kind: 257}, {Kind: api.EvEnd, N: 1}, {Kind: api.EvFuel, N: -1}, {}} {
		unwritten(t, api.Trace{Events: []api.Event{says, v}}, api.ErrForm)
	}
}

// long is a trace of so many ticks of four bytes, and events of one behind them.
func long(ticks, events int) api.Trace {
	return api.Trace{
		Ticks:  slices.Repeat([]api.Tick{{Kind: 2, Proc: 1, Mark: 2, Depth: 3}}, ticks),
		Counts: make([]int, ticks),
		Events: slices.Repeat([]api.Event{{Kind: api.EvEnd}}, events),
	}
}

func TestWriteTraceLong(t *testing.T) { // P13.4: just MaxTape bytes, and 2^20 records of a kind
	const most = 1 << 20
	for _, c := range []struct{ ticks, events, size int }{
		{most - 3, 2, api.MaxTape},
		{most - 4, 6, api.MaxTape},
		{0, most, most + 10},
		{(api.MaxTape - 10 - most) / 4, most, api.MaxTape - 2},
	} {
		x := long(c.ticks, c.events)
		b, e := tape.WriteTrace(x)
		if e != api.OK || len(b) != c.size {
			t.Errorf("%v: %d bytes, %d", c, len(b), e)
		}
		if got, at, e := tape.ReadTrace(b); e != api.OK || at != 0 || !alike(got, x) {
			t.Errorf("%v is read: %d at %d", c, e, at)
		}
		if got, n, e := tape.Salvage(b); e != api.OK || n != c.size || !alike(got, x) {
			t.Errorf("%v is saved: %d, %d", c, n, e)
		}
	}
	unwritten(t, long(most-3, 3), api.ErrLong)
	unwritten(t, long(most-2, 0), api.ErrLong)
	unwritten(t, long(most, 0), api.ErrLong)
	unwritten(t, long(most, most), api.ErrLong)
	unwritten(t, long(most+1, 0), api.ErrForm)
	unwritten(t, long(0, most+1), api.ErrForm)
	wrong := long(most, most)
	wrong.Events[5].N = 1
	unwritten(t, wrong, api.ErrForm)
}

// noTrace asks that bytes are no trace's tape, and what is saved of them: the records up to a place.
func noTrace(t *testing.T, b []byte, at int, want api.Errno, part api.Trace, upTo int) {
	t.Helper()
	if x, place, e := tape.ReadTrace(b); e != want || place != at || !reflect.DeepEqual(x, api.Trace{}) {
		t.Errorf("ReadTrace(%v) = %s, %d, %d, want %d, %d", start(b), brief(x), place, e, at, want)
	}
	if x, place, e := tape.Salvage(b); e != want || place != upTo || !alike(x, part) {
		t.Errorf("Salvage(%v) = %s, %d, %d, want %s, %d, %d", start(b), brief(x), place, e, brief(part), upTo, want)
	}
}

func TestReadTraceHead(t *testing.T) { // P13.4, P13.5
	whole := ended([]byte{19})
	for n := range 5 {
		noTrace(t, whole[:n], n, api.ErrShort, api.Trace{}, 0)
		for c := range 256 {
			b := slices.Clone(whole)
			if b[n] = byte(c); b[n] != whole[n] {
				noTrace(t, b, n, api.ErrTape, api.Trace{}, 0)
				noTrace(t, b[:n+1], n, api.ErrTape, api.Trace{}, 0)
			}
		}
	}
	noTrace(t, nil, 0, api.ErrShort, api.Trace{}, 0)
	noTrace(t, summed(inputHead, []byte{0}), 4, api.ErrTape, api.Trace{}, 0)
	noTrace(t, traceHead, 5, api.ErrShort, api.Trace{}, 5)
}

func TestReadTraceRecords(t *testing.T) { // P13.4, P13.5: what may be wrong with a record, behind one that is right
	ahead := []byte{17, 4, 1, 7, 0, 1}
	part := api.Trace{Ticks: []api.Tick{{Kind: 1, Proc: 7, Depth: 1}}, Counts: []int{1}, Events: []api.Event{{Kind: api.EvPrint, N: 2}}}
	const from = 11
	for c := range 256 {
		if c > 3 && (c < 17 || c > 21) { // no record's first byte, whatever follows
			noTrace(t, slices.Concat(traceHead, ahead, []byte{byte(c)}), from, api.ErrTape, part, from)
			noTrace(t, ended(ahead, []byte{byte(c), 0, 0, 1}), from, api.ErrTape, part, from)
		}
	}
	for _, c := range []struct {
		b  []byte
		at int
		e  api.Errno
	}{
		{[]byte{}, 0, api.ErrShort},
		{[]byte{1}, 1, api.ErrShort},
		{[]byte{2, 128}, 1, api.ErrShort},
		{[]byte{3, 9}, 2, api.ErrShort},
		{[]byte{3, 9, 255, 255}, 2, api.ErrShort},
		{[]byte{1, 9, 9}, 3, api.ErrShort},
		{[]byte{1, 9, 9, 200}, 3, api.ErrShort},
		{[]byte{17}, 1, api.ErrShort},
		{[]byte{18, 128}, 1, api.ErrShort},
		{[]byte{20, 128, 128}, 1, api.ErrShort},
		{[]byte{1, 128, 0, 1, 1}, 1, api.ErrTape},
		{[]byte{1, 1, 128, 128, 0, 1}, 2, api.ErrTape},
		{[]byte{1, 1, 1, 129, 0}, 3, api.ErrTape},
		{[]byte{17, 128, 0}, 1, api.ErrTape},
		{[]byte{18, 255, 255, 255, 255, 255, 255, 255, 255, 255, 2}, 1, api.ErrTape},
		{[]byte{20, 255, 255, 255, 255, 255, 255, 255, 255, 255, 255, 1}, 1, api.ErrTape},
		{[]byte{2, 128, 128, 128, 128, 8, 1, 1}, 1, api.ErrTape}, // Proc 2^31
		{[]byte{2, 1, 128, 128, 128, 128, 8, 1}, 2, api.ErrTape}, // Mark
		{[]byte{2, 1, 1, 128, 128, 128, 128, 8}, 3, api.ErrTape}, // Depth
		{[]byte{2, 1, 1, 0}, 3, api.ErrTape},                     // Depth 0
		{[]byte{2, 255, 255, 255, 255, 255, 255, 255, 255, 255, 1, 1, 1}, 1, api.ErrTape},
		{[]byte{2, 128, 128, 128, 128, 128, 128, 128, 128, 128, 1, 1, 1}, 1, api.ErrTape},
		{[]byte{2, 128, 128, 128, 128, 16, 1, 1}, 1, api.ErrTape}, // 2^32: nothing begins anew
	} {
		noTrace(t, slices.Concat(traceHead, ahead, c.b), from+c.at, c.e, part, from)
		if c.e == api.ErrTape {
			noTrace(t, ended(ahead, c.b, []byte{19}), from+c.at, c.e, part, from)
		}
	}
}

func TestReadTraceSum(t *testing.T) { // P13.4, P13.5
	for _, c := range traces {
		whole := ended(c.b)
		sum := len(whole) - 4
		for n := range 4 {
			noTrace(t, whole[:sum+n], sum, api.ErrShort, c.t, sum-1)
			b := slices.Clone(whole)
			b[sum+n] ^= 1
			noTrace(t, b, sum, api.ErrSum, c.t, sum-1)
			noTrace(t, append(b, 7), sum, api.ErrSum, c.t, sum-1)
		}
		noTrace(t, append(slices.Clone(whole), 0), sum+4, api.ErrTape, c.t, sum-1)
		noTrace(t, summed(whole), sum+4, api.ErrTape, c.t, sum-1)
		noTrace(t, whole[:sum-1], sum-1, api.ErrShort, c.t, sum-1)
	}
	b := ended(traces[3].b)
	b[6] = 5 // the tick tells another procedure: all records are right, the sum is not
	part := api.Trace{Ticks: slices.Clone(traces[3].t.Ticks), Counts: traces[3].t.Counts, Events: traces[3].t.Events}
	part.Ticks[0].Proc = 5
	noTrace(t, b, len(b)-4, api.ErrSum, part, len(b)-5)
}

func TestReadTraceLong(t *testing.T) { // P13.4, P13.5: bytes and records beyond what may be
	const most = 1 << 20
	ends := func(n int) []byte { return bytes.Repeat([]byte{19}, n) }
	ticks := func(n int) []byte { return bytes.Repeat([]byte{2, 1, 2, 3}, n) }
	full := long(0, most)
	noTrace(t, ended(ends(most+1)), 5+most, api.ErrLong, full, 5+most)
	noTrace(t, ended(ends(most), []byte{2, 1, 2, 3}, ends(1)), 9+most, api.ErrLong,
		api.Trace{Ticks: long(1, 0).Ticks, Counts: []int{most}, Events: full.Events}, 9+most)
	// A record that is too many and wrong besides is told as wrong, which is named first.
	noTrace(t, slices.Concat(traceHead, ends(most), []byte{17, 128, 0, 0}), 6+most, api.ErrTape, full, 5+most)
	noTrace(t, slices.Concat(traceHead, ends(most), []byte{17}), 6+most, api.ErrShort, full, 5+most)
	noTrace(t, slices.Concat(traceHead, ends(most), []byte{17, 0}), 5+most, api.ErrLong, full, 5+most)
	noTrace(t, slices.Concat(traceHead, ends(most)), 5+most, api.ErrShort, full, 5+most)
	noTrace(t, slices.Concat(traceHead, ends(most), []byte{9}), 5+most, api.ErrTape, full, 5+most)
	// Bytes that are too many are told first, and what is whole is saved.
	noTrace(t, make([]byte, api.MaxTape+1), 0, api.ErrLong, api.Trace{}, 0)
	noTrace(t, make([]byte, api.MaxTape), 0, api.ErrTape, api.Trace{}, 0)
	noTrace(t, ended(ticks(most-2)), 0, api.ErrLong, long(most-2, 0), 5+4*(most-2))
	noTrace(t, ended(ticks(most)), 0, api.ErrLong, long(most, 0), 5+4*most)
	noTrace(t, ended(ticks(most+1)), 0, api.ErrLong, long(most, 0), 5+4*most)
	noTrace(t, ended(ticks(most), ends(3)), 0, api.ErrLong, long(most, 3), 5+4*most+3)
	noTrace(t, append(ended([]byte{19}), make([]byte, api.MaxTape)...), 0, api.ErrLong, long(0, 1), 6)
}
