package tape_test

import (
	"bytes"
	"math"
	"math/rand/v2"
	"reflect"
	"slices"
	"testing"

	"parallax/api"
	"parallax/fold"
	"parallax/gen"
	"parallax/sample"
	"parallax/syntax"
	"parallax/tape"
)

// somewhere is a number of any size.
func somewhere(r *rand.Rand) int64 { return int64(r.Uint64()) >> r.IntN(64) }

// madeInput makes an input.
func madeInput(r *rand.Rand, most int) []int64 {
	var l []int64
	for range r.IntN(most + 1) {
		l = append(l, somewhere(r))
	}
	return l
}

// madeTrace makes a right trace.
func madeTrace(r *rand.Rand, most int) api.Trace {
	var t api.Trace
	part := func() int { return int(uint32(r.Uint32()) >> 1 >> r.IntN(32)) }
	for range r.IntN(most + 1) {
		if r.IntN(2) == 0 {
			t.Ticks = append(t.Ticks, api.Tick{Kind: 1 + r.IntN(3), Proc: part(), Mark: part(), Depth: max(part(), 1)})
			t.Counts = append(t.Counts, len(t.Events))
			continue
		}
		v := api.Event{Kind: 1 + r.IntN(5)}
		if v.Kind != api.EvEnd && v.Kind != api.EvFuel {
			v.N = somewhere(r)
		}
		t.Events = append(t.Events, v)
	}
	return t
}

func written(t *testing.T, x api.Trace) []byte {
	t.Helper()
	b, e := tape.WriteTrace(x)
	if e != api.OK {
		t.Fatalf("WriteTrace(%v): %d", x, e)
	}
	return b
}

func writtenInput(t *testing.T, l []int64) []byte {
	t.Helper()
	b, e := tape.WriteInput(l)
	if e != api.OK {
		t.Fatalf("WriteInput(%v): %d", l, e)
	}
	return b
}

func TestWrittenIsRead(t *testing.T) { // P13.7, W3
	r := rand.New(rand.NewPCG(13, 7))
	for i := range 3000 {
		l := madeInput(r, []int{3, 30, 1000}[min(i%30, 2)])
		given := slices.Clone(l)
		b := writtenInput(t, l)
		got, at, e := tape.ReadInput(b)
		if e != api.OK || at != 0 || !slices.Equal(got, l) || !slices.Equal(l, given) {
			t.Fatalf("%v: %v, %d, %d", l, got, at, e)
		}
		if !bytes.Equal(writtenInput(t, got), b) {
			t.Fatalf("%v", l)
		}
		x := madeTrace(r, []int{3, 30, 500}[min(i%30, 2)])
		b = written(t, x)
		y, at, e := tape.ReadTrace(b)
		if e != api.OK || at != 0 || !alike(x, y) || !bytes.Equal(written(t, y), b) {
			t.Fatalf("%v: %v, %d, %d", x, y, at, e)
		}
		if y, n, e := tape.Salvage(b); e != api.OK || n != len(b) || !alike(x, y) {
			t.Fatalf("%v: %v, %d, %d", x, y, n, e)
		}
	}
}

func TestOneByteChanged(t *testing.T) { // P13.8
	r := rand.New(rand.NewPCG(13, 8))
	for range 60 {
		b := writtenInput(t, madeInput(r, 6))
		for i, c := range b {
			for other := range 256 {
				if b[i] = byte(other); b[i] == c {
					continue
				}
				if l, _, e := tape.ReadInput(b); e == api.OK || len(l) > 0 {
					t.Fatalf("%v at %d: %v, %d", b, i, l, e)
				}
			}
			b[i] = c
		}
		b = written(t, madeTrace(r, 6))
		for i, c := range b {
			for other := range 256 {
				if b[i] = byte(other); b[i] == c {
					continue
				}
				if x, _, e := tape.ReadTrace(b); e == api.OK || !reflect.DeepEqual(x, api.Trace{}) {
					t.Fatalf("%v at %d: %v, %d", b, i, x, e)
				}
			}
			b[i] = c
		}
	}
}

func TestCutOff(t *testing.T) { // P13.9, W3
	r := rand.New(rand.NewPCG(13, 9))
	for range 300 {
		x := madeTrace(r, 20)
		b := written(t, x)
		sizes := []int{5} // where records end
		for at := 5; at < len(b)-5; {
			record, w := recordAt(b, at)
			if w.e != api.OK {
				t.Fatal(w)
			}
			at += record.size
			sizes = append(sizes, at)
		}
		for cut := range b {
			y, n, e := tape.Salvage(b[:cut])
			if e != api.ErrShort {
				t.Fatalf("%v cut at %d: %d", b, cut, e)
			}
			if len(y.Ticks) > len(x.Ticks) || len(y.Events) > len(x.Events) || len(y.Counts) != len(y.Ticks) ||
				!slices.Equal(y.Ticks, x.Ticks[:len(y.Ticks)]) || !slices.Equal(y.Counts, x.Counts[:len(y.Ticks)]) || !slices.Equal(y.Events, x.Events[:len(y.Events)]) {
				t.Fatalf("%v cut at %d: %v of %v", b, cut, y, x)
			}
			whole := 0 // the records that stand whole ahead of the cut
			for whole < len(sizes) && sizes[whole] <= cut {
				whole++
			}
			want := 0
			if whole > 0 {
				want = sizes[whole-1]
			}
			if n != want || len(y.Ticks)+len(y.Events) != max(whole-1, 0) {
				t.Fatalf("%v cut at %d: %v, %d, want %d records, %d", b, cut, y, n, whole-1, want)
			}
		}
	}
}

// spoilt is bytes of which some are changed, dropped, doubled or cut off.
func spoilt(r *rand.Rand, b []byte) []byte {
	b = slices.Clone(b)
	for range 1 + r.IntN(3) {
		if len(b) == 0 {
			break
		}
		i := r.IntN(len(b))
		switch r.IntN(6) {
		case 0:
			b[i] = byte(r.IntN(256))
		case 1:
			b[i] ^= 128
		case 2:
			b = slices.Delete(b, i, i+1)
		case 3:
			b = slices.Insert(b, i, []byte{0, 1, 2, 3, 17, 18, 19, 20, 21, 127, 128, 255}[r.IntN(12)])
		case 4:
			b = b[:i]
		case 5:
			k := r.IntN(len(b))
			b[i], b[k] = b[k], b[i]
		}
	}
	if len(b) > 4 && r.IntN(3) > 0 { // a sum that fits lets other faults be seen
		b = summed(b[:len(b)-4])
	}
	return b
}

// readAlike asks that bytes are read as the second reading reads them, and if so, written as the same bytes.
func readAlike(t *testing.T, b []byte) (api.Errno, api.Errno) {
	t.Helper()
	given := bytes.Clone(b)
	l, at, e := tape.ReadInput(b)
	wantL, w := input(b)
	if (wrong{at, e}) != w || !slices.Equal(l, wantL) {
		t.Fatalf("ReadInput(%v) = %v, %d, %d, want %v, %v", b, l, at, e, wantL, w)
	}
	if e == api.OK && !bytes.Equal(writtenInput(t, l), b) {
		t.Fatalf("%v is written as %v", b, writtenInput(t, l))
	}
	x, at, traceE := tape.ReadTrace(b)
	wantX, upTo, w := saved(b)
	if (wrong{at, traceE}) != w || traceE == api.OK && !alike(x, wantX) || traceE != api.OK && !reflect.DeepEqual(x, api.Trace{}) {
		t.Fatalf("ReadTrace(%v) = %v, %d, %d, want %v, %v", b, x, at, traceE, wantX, w)
	}
	if traceE == api.OK && !bytes.Equal(written(t, x), b) {
		t.Fatalf("%v is written as %v", b, written(t, x))
	}
	if x, n, e := tape.Salvage(b); e != w.e || n != upTo || !alike(x, wantX) {
		t.Fatalf("Salvage(%v) = %v, %d, %d, want %v, %d, %v", b, x, n, e, wantX, upTo, w)
	}
	if !bytes.Equal(b, given) {
		t.Fatalf("%v was changed to %v", given, b)
	}
	return e, traceE
}

func TestReadAlike(t *testing.T) { // P13.3, P13.4, P13.5, P13.7: against the second reading
	r := rand.New(rand.NewPCG(13, 4))
	inputs, traces := map[api.Errno]int{}, map[api.Errno]int{}
	for range 15000 {
		for _, b := range [][]byte{writtenInput(t, madeInput(r, 8)), written(t, madeTrace(r, 8))} {
			e, f := readAlike(t, spoilt(r, b))
			inputs[e]++
			traces[f]++
		}
	}
	for _, e := range []api.Errno{api.OK, api.ErrShort, api.ErrTape, api.ErrSum} {
		if inputs[e] < 300 || traces[e] < 300 {
			t.Errorf("the error %d: %d and %d times", e, inputs[e], traces[e])
		}
	}
	if inputs[api.ErrLong] < 20 {
		t.Errorf("too long a count: %d times", inputs[api.ErrLong])
	}
}

func FuzzTape(f *testing.F) { // P1, P13.1 to P13.7
	f.Add([]byte{})
	f.Add(summed(inputHead, []byte{2, 1, 128, 1}))
	for _, c := range traces {
		f.Add(ended(c.b))
	}
	f.Fuzz(func(t *testing.T, b []byte) {
		if len(b) > api.MaxTape {
			return
		}
		readAlike(t, b)
		if len(b) > 4 { // with a sum that fits
			readAlike(t, summed(b[:len(b)-4]))
		}
		for at := -1; at <= min(len(b)+1, 30); at++ {
			n, next, e := tape.ReadNum(b, at)
			if e == api.OK && !bytes.Equal(tape.Num(n), b[at:next]) {
				t.Fatalf("ReadNum(%v, %d) = %d, %d", b, at, n, next)
			}
		}
	})
}

// told is a history as a trace.
func told(h fold.History) api.Trace {
	t := api.Trace{Events: h.Events}
	for _, p := range h.Pos {
		t.Ticks = append(t.Ticks, p.Tick)
		t.Counts = append(t.Counts, p.Count)
	}
	return t
}

// built is a build of a program.
func built(t *testing.T, p api.Prog, plain bool, keep ...gen.Keep) gen.Build {
	t.Helper()
	b, at, e := gen.Compile(p, keep, plain)
	if e != api.OK {
		t.Fatalf("%v: %d at %v", p, e, at)
	}
	return b
}

func TestRecordIsTheHistory(t *testing.T) { // P13.6, P13.10, W3
	r := rand.New(rand.NewPCG(13, 10))
	ends := map[api.Event]int{}
	for range 1500 {
		p := sample.Prog(r.IntN)
		var l []int64
		for range r.IntN(8) {
			l = append(l, int64(r.IntN(9)-2))
		}
		fuel := r.IntN(300)
		h, e := fold.Run(p, l, fuel)
		if e != api.OK {
			t.Fatal(e)
		}
		// An input that is written down and read again gives the same run.
		again, _, e := tape.ReadInput(writtenInput(t, l))
		if e != api.OK {
			t.Fatal(e)
		}
		for _, plain := range []bool{true, false} {
			b := built(t, p, plain, gen.Keep{Proc: "main", Var: "v1"})
			x, e := tape.Record(b, l, fuel)
			if e != api.OK || !alike(x, told(h)) {
				t.Fatalf("%v: %d, %v, want %v", p, e, x, told(h))
			}
			if y, e := tape.Record(b, again, fuel); e != api.OK || !alike(x, y) {
				t.Fatalf("%v of %v: %d, %v, %v", p, l, e, x, y)
			}
			if y, _, e := tape.ReadTrace(written(t, x)); e != api.OK || !alike(x, y) { // a right trace
				t.Fatalf("%v: %d", x, e)
			}
		}
		ends[h.Events[len(h.Events)-1]]++
	}
	if len(ends) < 6 || ends[api.Event{Kind: api.EvEnd}] < 200 || ends[api.Event{Kind: api.EvFuel}] < 50 {
		t.Errorf("%v", ends)
	}
}

func program(t *testing.T, s string) api.Prog {
	t.Helper()
	p, at, e := syntax.Parse(s)
	if e != api.OK {
		t.Fatal(at, e)
	}
	return p
}

func TestRecord(t *testing.T) { // P13.6
	p := program(t, "proc main ( ) { var x ; read x ; print x / 0 ; }")
	want := api.Trace{
		Ticks:  []api.Tick{{Kind: 1, Depth: 1}, {Kind: 2, Mark: 1, Depth: 1}, {Kind: 2, Mark: 2, Depth: 1}, {Kind: 2, Mark: 3, Depth: 1}},
		Counts: []int{0, 0, 0, 1},
		Events: []api.Event{{Kind: api.EvRead, N: 5}, {Kind: api.EvTrap, N: api.TrapZero}},
	}
	for _, plain := range []bool{true, false} {
		b := built(t, p, plain)
		if x, e := tape.Record(b, []int64{5}, 100); e != api.OK || !alike(x, want) {
			t.Errorf("plain %v: %v, %d, want %v", plain, x, e, want)
		}
		// Without fuel, and with no more than there may be.
		if x, e := tape.Record(b, nil, 0); e != api.OK || !alike(x, api.Trace{Events: []api.Event{{Kind: api.EvFuel}}}) {
			t.Errorf("plain %v: %v, %d", plain, x, e)
		}
		if x, e := tape.Record(b, make([]int64, 1000), api.MaxFuel); e != api.OK || len(x.Ticks) != 4 {
			t.Errorf("plain %v: %v, %d", plain, x, e)
		}
	}
}

func TestRecordWrong(t *testing.T) { // P13.6: Start's errors
	b := built(t, program(t, "proc main ( ) { }"), true)
	for _, c := range []struct {
		b     gen.Build
		input int
		fuel  int
		want  api.Errno
	}{
		{b, 0, -1, api.ErrArg}, {b, 0, api.MaxFuel + 1, api.ErrArg}, {b, 1001, 5, api.ErrArg}, {b, 0, math.MinInt, api.ErrArg}, {b, 0, math.MaxInt, api.ErrArg},
		{gen.Build{}, 0, 5, api.ErrCode}, {gen.Build{}, 0, -1, api.ErrCode}, {gen.Build{Codes: b.Codes, Main: 1}, 0, 5, api.ErrCode},
	} {
		if x, e := tape.Record(c.b, make([]int64, c.input), c.fuel); e != c.want || !reflect.DeepEqual(x, api.Trace{}) {
			t.Errorf("%d numbers, fuel %d: %v, %d, want %d", c.input, c.fuel, x, e, c.want)
		}
	}
}

func TestRecordLongest(t *testing.T) { // P13.6, P13.10: a run as long as may be is a right trace, if too long a one for a tape
	for source, events := range map[string]int{
		"proc main ( ) { while ( true ) { } }":                               1,
		"proc main ( ) { while ( true ) { print 1 ; print 2 ; print 3 ; } }": api.MaxFuel * 3 / 4,
	} {
		x, e := tape.Record(built(t, program(t, source), false), nil, api.MaxFuel)
		if e != api.OK || len(x.Ticks) != api.MaxFuel || len(x.Counts) != api.MaxFuel || len(x.Events) != events {
			t.Errorf("%q: %d ticks, %d events, %d", source, len(x.Ticks), len(x.Events), e)
		}
		unwritten(t, x, api.ErrLong)
		shorter, e := tape.Record(built(t, program(t, source), true), nil, api.MaxFuel/2)
		if e != api.OK || !slices.Equal(shorter.Ticks, x.Ticks[:api.MaxFuel/2]) {
			t.Errorf("%q: %d", source, e)
		}
		if y, _, e := tape.ReadTrace(written(t, shorter)); e != api.OK || !alike(y, shorter) {
			t.Errorf("%q: %d", source, e)
		}
	}
}

func TestNewMemory(t *testing.T) { // rule 3: what is answered is shared with nothing
	l := []int64{1, 2}
	b := writtenInput(t, l)
	got, _, _ := tape.ReadInput(b)
	clear(b)
	if !slices.Equal(got, l) {
		t.Errorf("%v", got)
	}
	x := traces[3].t
	b = written(t, x)
	other := written(t, x)
	y, _, _ := tape.ReadTrace(b)
	z, _, _ := tape.Salvage(b[:len(b)-1])
	clear(b)
	if !alike(x, y) || !alike(x, z) || !bytes.Equal(other, written(t, x)) {
		t.Errorf("%v, %v", y, z)
	}
	n := tape.Num(7)
	n[0] = 9
	if tape.Num(7)[0] != 14 {
		t.Error(tape.Num(7))
	}
}
