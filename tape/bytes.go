package tape

import (
	"math"

	"parallax/api"
)

// Kinds of tapes, as their heads tell them.
const (
	inputTape = iota + 1
	traceTape
)

const (
	more       = 1 << 7 // what all but the last byte of a number have on top of their digits
	digitBits  = 7
	maxBytes   = 10 // of a number of 64 binary digits
	sumModulus = 65521
	maxRecords = 1 << 20       // ticks, and events, of a trace
	maxPart    = math.MaxInt32 // of what a tick tells
	endRecord  = 0             // stands behind the last record of a trace
	eventByte  = 16            // an event's first byte is so much more than its kind
)

// head is what a tape begins with.
type head [5]byte

func headOf(kind byte) head { return head{80, 76, 88, 49, kind} }

// sum is a sum as it stands on a tape.
type sum [4]byte

func sumOf(b []byte) sum {
	n := Sum(b)
	return sum{byte(n >> 24), byte(n >> 16), byte(n >> 8), byte(n)}
}

// unsigned is the z of a number: 0, -1, 1, -2 and so on are 0, 1, 2, 3.
func unsigned(n int64) uint64 {
	if n < 0 {
		return ^(uint64(n) << 1)
	}
	return uint64(n) << 1
}

// signed is the number of a z.
func signed(z uint64) int64 {
	if z%2 == 1 {
		return ^int64(z >> 1)
	}
	return int64(z >> 1)
}

// digits are those whose bytes stand at a place, and the place behind them.
func digits(b []byte, at int) (uint64, int, api.Errno) {
	var z uint64
	for i, c := range b[at:] {
		if i == maxBytes-1 && c > 1 || i > 0 && c == 0 {
			return 0, 0, api.ErrTape // beyond 64 digits, or no byte that is needed
		}
		z |= uint64(c%more) << (digitBits * i)
		if c < more {
			return z, at + i + 1, api.OK
		}
	}
	return 0, 0, api.ErrShort
}
