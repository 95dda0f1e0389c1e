package tape_test

import (
	"bytes"
	"hash/adler32"
	"math"
	"math/rand/v2"
	"slices"
	"testing"

	"parallax/api"
	"parallax/tape"
)

func TestNum(t *testing.T) { // P13.1
	for _, c := range []struct {
		n    int64
		want []byte
	}{
		{0, []byte{0}}, {-1, []byte{1}}, {1, []byte{2}}, {-2, []byte{3}},
		{63, []byte{126}}, {-64, []byte{127}}, {64, []byte{128, 1}}, {-65, []byte{129, 1}}, {65, []byte{130, 1}},
		{8191, []byte{254, 127}}, {-8192, []byte{255, 127}}, {8192, []byte{128, 128, 1}},
		{math.MaxInt64, []byte{254, 255, 255, 255, 255, 255, 255, 255, 255, 1}},
		{math.MinInt64, []byte{255, 255, 255, 255, 255, 255, 255, 255, 255, 1}},
		{1 << 62, []byte{128, 128, 128, 128, 128, 128, 128, 128, 128, 1}},
		{1<<62 - 1, []byte{254, 255, 255, 255, 255, 255, 255, 255, 127}},
	} {
		if b := tape.Num(c.n); !bytes.Equal(b, c.want) {
			t.Errorf("Num(%d) = %v, want %v", c.n, b, c.want)
		}
		if n, next, e := tape.ReadNum(c.want, 0); n != c.n || next != len(c.want) || e != api.OK {
			t.Errorf("ReadNum(%v) = %d, %d, %d, want %d", c.want, n, next, e, c.n)
		}
	}
}

// edges are numbers at which bytes grow, and their neighbours.
func edges() []int64 {
	l := []int64{0, math.MaxInt64, math.MinInt64, math.MinInt64 + 1}
	for i := range 63 {
		n := int64(1) << i
		l = append(l, n-1, n, n+1, -n-1, -n, -n+1)
	}
	return l
}

func TestNumAndBack(t *testing.T) { // P13.1, P13.7
	r := rand.New(rand.NewPCG(13, 1))
	l := edges()
	for range 5000 {
		l = append(l, int64(r.Uint64()>>r.IntN(64)), -int64(r.Uint64()>>r.IntN(64)))
	}
	for _, n := range l {
		b := tape.Num(n)
		if !bytes.Equal(b, bytesOf(zOf(n))) {
			t.Fatalf("Num(%d) = %v", n, b)
		}
		around := slices.Concat([]byte{200, 9}, b, []byte{255, 3})
		if m, next, e := tape.ReadNum(around, 2); m != n || next != 2+len(b) || e != api.OK {
			t.Fatalf("ReadNum(%v, 2) = %d, %d, %d, want %d", around, m, next, e, n)
		}
		for cut := range b {
			if m, at, e := tape.ReadNum(b[:cut], 0); m != 0 || at != 0 || e != api.ErrShort {
				t.Fatalf("ReadNum(%v, 0) = %d, %d, %d", b[:cut], m, at, e)
			}
		}
	}
}

// misread asks that no number stands at a place.
func misread(t *testing.T, b []byte, at int, want api.Errno) {
	t.Helper()
	place := at
	if want == api.ErrArg {
		place = 0
	}
	if n, next, e := tape.ReadNum(b, at); n != 0 || next != place || e != want {
		t.Errorf("ReadNum(%v, %d) = %d, %d, %d, want %d", b, at, n, next, e, want)
	}
}

func TestReadNumWrong(t *testing.T) { // P13.1
	for _, at := range []int{-1, 2, math.MaxInt, math.MinInt} {
		misread(t, []byte{0}, at, api.ErrArg)
	}
	misread(t, nil, 1, api.ErrArg)
	misread(t, nil, 0, api.ErrShort)
	misread(t, []byte{0}, 1, api.ErrShort)
	misread(t, []byte{5, 128}, 1, api.ErrShort)
	misread(t, []byte{5, 255, 128}, 1, api.ErrShort)
	misread(t, []byte{128, 0}, 0, api.ErrTape) // more bytes than it needs
	misread(t, []byte{7, 129, 128, 0, 9}, 1, api.ErrTape)
	nine := slices.Repeat([]byte{255}, 9)
	misread(t, nine, 0, api.ErrShort)
	for c := range 256 { // the tenth byte has one binary digit
		b := append(slices.Clone(nine), byte(c))
		if c == 1 {
			if n, next, e := tape.ReadNum(b, 0); n != math.MinInt64 || next != 10 || e != api.OK {
				t.Errorf("%v: %d, %d, %d", b, n, next, e)
			}
			continue
		}
		misread(t, b, 0, api.ErrTape)
		misread(t, append(b, 1), 0, api.ErrTape)
	}
	misread(t, slices.Repeat([]byte{128}, 9), 0, api.ErrShort)
	misread(t, slices.Repeat([]byte{128}, 10), 0, api.ErrTape)
	misread(t, slices.Repeat([]byte{128}, 11), 0, api.ErrTape)
	misread(t, append(slices.Repeat([]byte{128}, 10), 0), 0, api.ErrTape)
	misread(t, append(slices.Repeat([]byte{128}, 9), 0), 0, api.ErrTape)
}

func TestReadNumAlike(t *testing.T) { // P13.1: against the second reading, on bytes near those of numbers
	r := rand.New(rand.NewPCG(13, 2))
	some := []byte{0, 1, 2, 127, 128, 129, 255}
	errs := map[api.Errno]int{}
	for range 40000 {
		b := make([]byte, r.IntN(14))
		high := r.IntN(4) > 0
		for i := range b {
			b[i] = some[r.IntN(len(some))]
			if high && i < len(b)-1-r.IntN(2) {
				b[i] |= 128
			}
		}
		at := r.IntN(len(b) + 1)
		n, next, e := tape.ReadNum(b, at)
		z, size, want := zAt(b, at)
		if e != want || e == api.OK && (n != numberOf(z) || next != at+size) || e != api.OK && (n != 0 || next != at) {
			t.Fatalf("ReadNum(%v, %d) = %d, %d, %d, want %v, %d, %d", b, at, n, next, e, z, size, want)
		}
		errs[e]++
	}
	if errs[api.OK] < 1000 || errs[api.ErrShort] < 1000 || errs[api.ErrTape] < 1000 {
		t.Errorf("%v", errs)
	}
}

func TestSum(t *testing.T) { // P13.2
	for _, c := range []struct {
		b    []byte
		want uint32
	}{
		{nil, 1},
		{[]byte{0}, 65536 + 1},
		{[]byte{1}, 2*65536 + 2},
		{[]byte{1, 2}, 6*65536 + 4},
		{[]byte("Wikipedia"), 0x11E60398},
	} {
		if n := tape.Sum(c.b); n != c.want {
			t.Errorf("Sum(%v) = %d, want %d", c.b, n, c.want)
		}
	}
	r := rand.New(rand.NewPCG(13, 3))
	for _, size := range []int{1, 256, 257, 258, 5551, 5552, 5553, 65520, 65521, 65522, 1 << 20} {
		for _, c := range []int{0, 1, 255, -1} {
			b := make([]byte, size)
			for i := range b {
				if b[i] = byte(c); c < 0 {
					b[i] = byte(r.IntN(256))
				}
			}
			if n, want := tape.Sum(b), adler32.Checksum(b); n != want {
				t.Errorf("%d bytes of %d: %d, want %d", size, c, n, want)
			}
		}
	}
}

// summed is bytes with their sum behind them.
func summed(l ...[]byte) []byte {
	b := slices.Concat(l...)
	n := adler32.Checksum(b)
	return append(b, byte(n>>24), byte(n>>16), byte(n>>8), byte(n))
}

var (
	inputHead = []byte{80, 76, 88, 49, 1}
	traceHead = []byte{80, 76, 88, 49, 2}
)

func TestWriteInput(t *testing.T) { // P13.3
	for _, c := range []struct {
		l    []int64
		want []byte
	}{
		{nil, summed(inputHead, []byte{0})},
		{[]int64{}, summed(inputHead, []byte{0})},
		{[]int64{-1, 64}, summed(inputHead, []byte{2, 1, 128, 1})},
		{[]int64{0, math.MinInt64}, summed(inputHead, []byte{2, 0, 255, 255, 255, 255, 255, 255, 255, 255, 255, 1})},
		{make([]int64, 127), summed(inputHead, []byte{127}, make([]byte, 127))},
		{make([]int64, 128), summed(inputHead, []byte{128, 1}, make([]byte, 128))},
		{make([]int64, 1000), summed(inputHead, []byte{232, 7}, make([]byte, 1000))},
	} {
		b, e := tape.WriteInput(c.l)
		if e != api.OK || !bytes.Equal(b, c.want) {
			t.Errorf("WriteInput(%v) = %v, %d, want %v", c.l, b, e, c.want)
		}
		if l, at, e := tape.ReadInput(c.want); e != api.OK || at != 0 || !slices.Equal(l, c.l) {
			t.Errorf("ReadInput(%v) = %v, %d, %d, want %v", c.want, l, at, e, c.l)
		}
	}
	for _, n := range []int{1001, 100000} {
		if b, e := tape.WriteInput(make([]int64, n)); e != api.ErrLong || len(b) > 0 {
			t.Errorf("%d numbers: %d bytes, %d", n, len(b), e)
		}
	}
}

// start is the beginning of bytes.
func start(b []byte) []byte { return b[:min(len(b), 60)] }

// noInput asks that bytes are no input's tape.
func noInput(t *testing.T, b []byte, at int, want api.Errno) {
	t.Helper()
	if l, place, e := tape.ReadInput(b); e != want || place != at || len(l) > 0 {
		t.Errorf("ReadInput(%v) = %d numbers, %d, %d, want %d, %d", start(b), len(l), place, e, at, want)
	}
}

func TestReadInputHead(t *testing.T) { // P13.3
	whole := summed(inputHead, []byte{0})
	for n := range 5 {
		noInput(t, whole[:n], n, api.ErrShort)
		for c := range 256 {
			b := slices.Clone(whole)
			if b[n] = byte(c); b[n] != whole[n] {
				noInput(t, b, n, api.ErrTape)
				noInput(t, b[:n+1], n, api.ErrTape)
				noInput(t, b[:max(4, n+1)], n, api.ErrTape)
			}
		}
	}
	noInput(t, nil, 0, api.ErrShort)
	noInput(t, summed(traceHead, []byte{0}), 4, api.ErrTape)
	noInput(t, []byte{81, 77}, 0, api.ErrTape) // the first one that differs
}

func TestReadInputLong(t *testing.T) { // P13.3: more bytes than may be come first
	noInput(t, make([]byte, api.MaxTape+1), 0, api.ErrLong)
	noInput(t, make([]byte, api.MaxTape), 0, api.ErrTape)
	b := append(summed(inputHead, []byte{0}), make([]byte, api.MaxTape)...)
	noInput(t, b, 0, api.ErrLong)
	noInput(t, b[:api.MaxTape], 10, api.ErrTape)
}

func TestReadInputCount(t *testing.T) { // P13.3: what is wrong is told at the count's first byte
	noInput(t, inputHead, 5, api.ErrShort)
	in := func(l ...byte) []byte { return summed(inputHead, l) }
	noInput(t, slices.Concat(inputHead, []byte{128}), 5, api.ErrShort)
	noInput(t, slices.Concat(inputHead, []byte{255, 255}), 5, api.ErrShort)
	noInput(t, in(128, 0), 5, api.ErrTape)
	noInput(t, in(233, 7), 5, api.ErrLong)
	noInput(t, summed(inputHead, []byte{233, 7}, make([]byte, 1001)), 5, api.ErrLong)
	noInput(t, in(255, 255, 255, 255, 255, 255, 255, 255, 127), 5, api.ErrLong)    // 2^63 - 1
	noInput(t, in(128, 128, 128, 128, 128, 128, 128, 128, 128, 1), 5, api.ErrLong) // 2^63
	noInput(t, in(255, 255, 255, 255, 255, 255, 255, 255, 255, 1), 5, api.ErrLong)
	noInput(t, in(255, 255, 255, 255, 255, 255, 255, 255, 255, 2), 5, api.ErrTape)
	noInput(t, in(255, 255, 255, 255, 255, 255, 255, 255, 255, 129, 0), 5, api.ErrTape)
}

func TestReadInputRest(t *testing.T) { // P13.3: numbers, the sum, what follows
	noInput(t, slices.Concat(inputHead, []byte{1}), 6, api.ErrShort)
	noInput(t, slices.Concat(inputHead, []byte{2, 0}), 7, api.ErrShort)
	noInput(t, slices.Concat(inputHead, []byte{2, 0, 128}), 7, api.ErrShort)
	noInput(t, summed(inputHead, []byte{2, 0, 128, 0}), 7, api.ErrTape)
	noInput(t, summed(inputHead, []byte{2, 0, 255, 255, 255, 255, 255, 255, 255, 255, 255, 3}), 7, api.ErrTape)
	whole := summed(inputHead, []byte{2, 1, 128, 1})
	for n := range 4 {
		noInput(t, whole[:9+n], 9, api.ErrShort)
		b := slices.Clone(whole)
		b[9+n]++
		noInput(t, b, 9, api.ErrSum)
		noInput(t, append(b, 0), 9, api.ErrSum)
		b[9+n] -= 2
		noInput(t, b, 9, api.ErrSum)
	}
	noInput(t, append(slices.Clone(whole), 0), 13, api.ErrTape)
	noInput(t, append(slices.Clone(whole), whole...), 13, api.ErrTape)
	noInput(t, summed(whole), 13, api.ErrTape)
	// One number less than the count says: the sum is read as a number, or ends.
	short := summed(inputHead, []byte{3, 1, 128, 1})
	if _, at, e := tape.ReadInput(short); e == api.OK || at < 9 {
		t.Errorf("%d, %d", at, e)
	}
	noInput(t, summed(inputHead, []byte{1, 1, 128, 1}), 7, api.ErrSum)
}
