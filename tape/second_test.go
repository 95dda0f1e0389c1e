package tape_test

import (
	"bytes"
	"hash/adler32"
	"math/big"

	"parallax/api"
)

// A second reading of the chapter, held against the first one on bytes by chance: numbers are of any size, and stand where their own bytes do; a tape is a row of things, of which the first that is wrong is told.

var (
	base  = big.NewInt(128)
	bound = new(big.Int).Lsh(big.NewInt(1), 64)
)

// bytesOf are those of a z.
func bytesOf(z *big.Int) []byte {
	var l []byte
	for {
		rest := new(big.Int)
		z, rest = new(big.Int).DivMod(z, base, rest)
		if z.Sign() == 0 {
			return append(l, byte(rest.Int64()))
		}
		l = append(l, byte(rest.Int64()+128))
	}
}

// zOf is the z of a number.
func zOf(n int64) *big.Int {
	z := new(big.Int).Mul(big.NewInt(2), big.NewInt(n))
	if n < 0 {
		z.Neg(z)
		z.Sub(z, big.NewInt(1))
	}
	return z
}

// numberOf is the number of a z.
func numberOf(z *big.Int) int64 {
	half, rest := new(big.Int).DivMod(z, big.NewInt(2), new(big.Int))
	if rest.Sign() != 0 {
		half.Neg(half)
		half.Sub(half, big.NewInt(1))
	}
	return half.Int64()
}

// zAt is the z whose bytes stand at a place, and how many these are.
func zAt(b []byte, at int) (*big.Int, int, api.Errno) {
	z, power := new(big.Int), big.NewInt(1)
	rest := b[at:]
	for size := 1; size <= 10 && size <= len(rest); size++ {
		z.Add(z, new(big.Int).Mul(power, big.NewInt(int64(rest[size-1]%128))))
		power.Mul(power, base)
		if z.Cmp(bound) < 0 && bytes.Equal(bytesOf(z), rest[:size]) {
			return z, size, api.OK
		}
	}
	for _, c := range rest {
		if c < 128 {
			return nil, 0, api.ErrTape
		}
	}
	if len(rest) < 10 {
		return nil, 0, api.ErrShort
	}
	return nil, 0, api.ErrTape
}

// wrong is where and what is wrong.
type wrong struct {
	at int
	e  api.Errno
}

// headed is what is wrong with the first five bytes.
func headed(b []byte, kind byte) wrong {
	want := []byte{'P', 'L', 'X', '1', kind}
	for i, c := range want {
		if i == len(b) {
			return wrong{i, api.ErrShort}
		}
		if b[i] != c {
			return wrong{i, api.ErrTape}
		}
	}
	return wrong{}
}

// closed is what is wrong with the sum at a place, and what stands behind it.
func closed(b []byte, at int) wrong {
	if at+4 > len(b) {
		return wrong{at, api.ErrShort}
	}
	n := adler32.Checksum(b[:at])
	if !bytes.Equal(b[at:at+4], []byte{byte(n >> 24), byte(n >> 16), byte(n >> 8), byte(n)}) {
		return wrong{at, api.ErrSum}
	}
	if at+4 < len(b) {
		return wrong{at + 4, api.ErrTape}
	}
	return wrong{}
}

// input is ReadInput by the second reading.
func input(b []byte) ([]int64, wrong) {
	if len(b) > 4194304 {
		return nil, wrong{0, api.ErrLong}
	}
	if w := headed(b, 1); w.e != api.OK {
		return nil, w
	}
	count, size, e := zAt(b, 5)
	if e != api.OK {
		return nil, wrong{5, e}
	}
	if count.Cmp(big.NewInt(1000)) > 0 {
		return nil, wrong{5, api.ErrLong}
	}
	at := 5 + size
	var l []int64
	for range count.Int64() {
		z, size, e := zAt(b, at)
		if e != api.OK {
			return nil, wrong{at, e}
		}
		l = append(l, numberOf(z))
		at += size
	}
	if w := closed(b, at); w.e != api.OK {
		return nil, w
	}
	return l, wrong{}
}

// record is that at a place: a tick (of a Kind above 0) or an event, and how many bytes it has; of the byte behind the last one none of both.
type record struct {
	tick  api.Tick
	event api.Event
	size  int
}

func recordAt(b []byte, at int) (record, wrong) {
	if at == len(b) {
		return record{}, wrong{at, api.ErrShort}
	}
	r := record{size: 1}
	take := func(least, most *big.Int) (*big.Int, wrong) {
		z, size, e := zAt(b, at+r.size)
		if e == api.OK && (z.Cmp(least) < 0 || z.Cmp(most) > 0) {
			e = api.ErrTape
		}
		if e != api.OK {
			return nil, wrong{at + r.size, e}
		}
		r.size += size
		return z, wrong{}
	}
	switch kind := int(b[at]); kind {
	case 0:
		return r, wrong{}
	case 1, 2, 3:
		var part [3]int
		for i := range part {
			z, w := take(big.NewInt([]int64{0, 0, 1}[i]), big.NewInt(2147483647))
			if w.e != api.OK {
				return record{}, w
			}
			part[i] = int(z.Int64())
		}
		r.tick = api.Tick{Kind: kind, Proc: part[0], Mark: part[1], Depth: part[2]}
		return r, wrong{}
	case 17, 18, 20:
		z, w := take(new(big.Int), bound)
		if w.e != api.OK {
			return record{}, w
		}
		r.event = api.Event{Kind: kind - 16, N: numberOf(z)}
		return r, wrong{}
	case 19, 21:
		r.event = api.Event{Kind: kind - 16}
		return r, wrong{}
	}
	return record{}, wrong{at, api.ErrTape}
}

// saved is Salvage by the second reading, and what is wrong, with its place.
func saved(b []byte) (api.Trace, int, wrong) {
	var t api.Trace
	if w := headed(b, 2); w.e != api.OK {
		return t, 0, w
	}
	at := 5
	for {
		r, w := recordAt(b, at)
		if w.e == api.OK && (len(t.Ticks) == 1048576 && r.tick.Kind > 0 || len(t.Events) == 1048576 && r.event.Kind > 0) {
			w = wrong{at, api.ErrLong}
		}
		switch {
		case w.e != api.OK:
			return t, at, w
		case r.tick.Kind > 0:
			t.Ticks = append(t.Ticks, r.tick)
			t.Counts = append(t.Counts, len(t.Events))
		case r.event.Kind > 0:
			t.Events = append(t.Events, r.event)
		default:
			if w := closed(b, at+1); w.e != api.OK {
				return t, at, w
			}
			return t, len(b), wrong{}
		}
		at += r.size
	}
}
