package tape

import "parallax/api"

func putHead(kind byte) []byte {
	h := headOf(kind)
	return append([]byte(nil), h[:]...)
}

// putSum puts the sum of all bytes behind them.
func putSum(b []byte) []byte {
	s := sumOf(b)
	return append(b, s[:]...)
}

func putDigits(b []byte, z uint64) []byte {
	for z >= more {
		b = append(b, byte(z%more)+more)
		z >>= digitBits
	}
	return append(b, byte(z))
}

func putNum(b []byte, n int64) []byte { return putDigits(b, unsigned(n)) }

func putCount(b []byte, n int) []byte { return putDigits(b, uint64(n)) }

// putRecords puts the ticks of a right trace, each one behind the events that were ahead of it.
func putRecords(b []byte, t api.Trace) []byte {
	told := 0
	for i, k := range t.Ticks {
		b = putEvents(b, t.Events[told:t.Counts[i]])
		told = t.Counts[i]
		b = putTick(b, k)
	}
	return putEvents(b, t.Events[told:])
}

func putTick(b []byte, k api.Tick) []byte {
	b = append(b, byte(k.Kind))
	b = putCount(b, k.Proc)
	b = putCount(b, k.Mark)
	return putCount(b, k.Depth)
}

func putEvents(b []byte, l []api.Event) []byte {
	for _, v := range l {
		b = append(b, byte(eventByte+v.Kind))
		if numbered(v.Kind) {
			b = putNum(b, v.N)
		}
	}
	return b
}

// numbered tells whether events of a kind tell a number.
func numbered(kind int) bool { return kind != api.EvEnd && kind != api.EvFuel }

// right tells whether a trace is.
func right(t api.Trace) bool {
	if len(t.Ticks) > maxRecords || len(t.Events) > maxRecords || len(t.Counts) != len(t.Ticks) {
		return false
	}
	told := 0
	for _, n := range t.Counts {
		if n < told || n > len(t.Events) {
			return false
		}
		told = n
	}
	return all(t.Ticks, rightTick) && all(t.Events, rightEvent)
}

// all tells whether something holds of each one.
func all[T any](l []T, holds func(T) bool) bool {
	for _, x := range l {
		if !holds(x) {
			return false
		}
	}
	return true
}

func rightTick(k api.Tick) bool {
	return between(api.MEnter, k.Kind, api.MLeave) && between(0, k.Proc, maxPart) && between(0, k.Mark, maxPart) && between(1, k.Depth, maxPart)
}

func rightEvent(v api.Event) bool {
	return between(api.EvPrint, v.Kind, api.EvFuel) && (numbered(v.Kind) || v.N == 0)
}

func between(least, n, greatest int) bool { return least <= n && n <= greatest }
