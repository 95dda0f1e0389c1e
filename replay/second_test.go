package replay_test

import (
	"slices"
	"testing"

	"parallax/api"
	"parallax/gen"
	"parallax/replay"
	"parallax/vm"
)

// A second reading of the chapter: all that is seen of a machine is written down at each position at once, stops are asked of each position in a row, and which copies are kept is told by positions alone.

// view is what is seen of a machine.
type view struct {
	tick   api.Tick
	ticks  int
	events []api.Event
	frames []frame
	ended  bool
}

type frame struct {
	proc, mark int
	cells      []int64
}

func seen(m *vm.Machine) view {
	tick, _ := m.Tick()
	v := view{tick: tick, ticks: m.Ticks(), events: m.Events(), ended: m.Ended()}
	for k := range m.Frames() {
		proc, mark, cells, _ := m.Frame(k)
		v.frames = append(v.frames, frame{proc, mark, cells})
	}
	return v
}

func alike(a, b view) bool {
	return a.tick == b.tick && a.ticks == b.ticks && a.ended == b.ended && slices.Equal(a.events, b.events) &&
		slices.EqualFunc(a.frames, b.frames, func(x, y frame) bool {
			return x.proc == y.proc && x.mark == y.mark && slices.Equal(x.cells, y.cells)
		})
}

// whole is a run: what is seen at each position.
type whole []view

func wholeOf(t *testing.T, b gen.Build, input []int64, fuel int) whole {
	t.Helper()
	m, e := gen.Start(b, input, fuel)
	if e != api.OK {
		t.Fatalf("Start: %d", e)
	}
	w := whole{seen(m)}
	for m.Step() {
		w = append(w, seen(m))
	}
	return append(w, seen(m))
}

func (w whole) end() int { return len(w) - 1 }

func (w whole) met(s replay.Stop, p int) bool {
	tick, isTick := w[p].tick, p > 0 && p < w.end()
	return s.Kind == 1 && isTick && tick.Proc == s.Proc && tick.Mark == s.Mark ||
		s.Kind == 2 && len(w[p].events) >= s.N ||
		s.Kind == 3 && isTick && tick.Depth <= s.N ||
		s.Kind == 4 && isTick && tick.Kind == s.N ||
		s.Kind == 5 && p == s.N
}

func (w whole) next(s replay.Stop, at int) (int, bool) {
	for p := at + 1; p <= w.end(); p++ {
		if w.met(s, p) {
			return p, true
		}
	}
	return w.end(), false
}

func (w whole) prev(s replay.Stop, at int) (int, bool) {
	for p := at - 1; p >= 0; p-- {
		if w.met(s, p) {
			return p, true
		}
	}
	return 0, false
}

func (w whole) first(n int) (int, api.Errno) {
	for p, v := range w {
		if n >= 0 && len(v.events) >= n {
			return p, api.OK
		}
	}
	return 0, api.ErrPlace
}

// shelf is which copies are kept.
type shelf struct {
	every, room int
	at          []int
}

// through goes through a position.
func (s *shelf) through(p int) {
	if p%s.every != 0 || slices.Contains(s.at, p) {
		return
	}
	s.at = append(s.at, p)
	slices.Sort(s.at)
	if len(s.at) <= s.room {
		return
	}
	goes, least := 0, 0
	for i := 1; i < len(s.at); i++ {
		ahead, behind := s.at[i-1], p
		if i+1 < len(s.at) {
			behind = s.at[i+1]
		}
		d := behind - ahead
		if d < 0 {
			d = -d
		}
		if goes == 0 || d < least {
			goes, least = i, d
		}
	}
	s.at = slices.Delete(s.at, goes, goes+1)
}

// from is where one begins to go to p, being at a position.
func (s *shelf) from(at, p int) int {
	best := 0
	for _, q := range append(slices.Clone(s.at), at) {
		if q <= p && q > best {
			best = q
		}
	}
	return best
}
