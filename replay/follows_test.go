package replay_test

import (
	"math/rand/v2"
	"slices"
	"testing"

	"parallax/api"
	"parallax/fold"
	"parallax/gen"
	"parallax/replay"
	"parallax/sample"
	"parallax/syntax"
)

// setting is a program and what it is run with.
type setting struct {
	api.Prog
	builds [2]gen.Build // lean, plain
	input  []int64
	fuel   int
}

func made(t *testing.T, r *rand.Rand) setting {
	t.Helper()
	s := setting{Prog: sample.Prog(r.IntN), fuel: r.IntN(120)}
	for range r.IntN(8) {
		s.input = append(s.input, int64(r.IntN(9)-2))
	}
	for i := range s.builds {
		var e api.Errno
		if s.builds[i], _, e = gen.Compile(s.Prog, nil, i == 1); e != api.OK {
			t.Fatalf("Compile(%s): %d", s.text(), e)
		}
	}
	return s
}

// text is a setting's, for what is told of a fault.
func (s setting) text() string {
	x, _ := syntax.Print(s.Prog)
	return x
}

// someStop is a stop, most often one that is met.
func someStop(r *rand.Rand, w whole) replay.Stop {
	s := replay.Stop{Kind: 1 + r.IntN(5), Proc: r.IntN(4), Mark: r.IntN(9), N: r.IntN(6) - 1}
	if r.IntN(15) == 0 {
		s.Kind = r.IntN(12) - 3
	}
	tick := w[r.IntN(len(w))].tick
	switch {
	case r.IntN(8) == 0: // as it is
	case s.Kind == 1:
		s.Proc, s.Mark = tick.Proc, tick.Mark
	case s.Kind == 2:
		s.N = r.IntN(len(w[w.end()].events)+3) - 1
	case s.Kind == 3:
		s.N = tick.Depth
	case s.Kind == 4:
		s.N = tick.Kind
	case s.Kind == 5:
		s.N = r.IntN(len(w))
	}
	return s
}

// rider is an engine, and where it must be.
type rider struct {
	*testing.T
	setting
	*replay.Engine
	every, room int
	w           whole
	at          int
}

func (x *rider) stands(what string, arg any) {
	x.Helper()
	if x.At() != x.at || x.End() != x.w.end() || !alike(seen(x.Machine()), x.w[x.at]) {
		x.Fatalf("%s\ninput %v, fuel %d, every %d, room %d: %s %v: at %d of %d; want %d of %d", x.text(), x.input, x.fuel, x.every, x.room, what, arg, x.At(), x.End(), x.at, x.w.end())
	}
}

// copies asks P14.4.
func (x *rider) copies() {
	x.Helper()
	kept := x.Kept()
	if len(kept) == 0 || kept[0] != 0 || len(kept) > x.room || kept[len(kept)-1] > x.w.end() {
		x.Fatalf("every %d, room %d: %v", x.every, x.room, kept)
	}
	for i, p := range kept {
		if p%x.every != 0 || i > 0 && p <= kept[i-1] {
			x.Fatalf("every %d, room %d: %v", x.every, x.room, kept)
		}
	}
}

// from is the last copy ahead of a position, or where the engine is, if that is nearer ahead.
func (x *rider) from(p int) int {
	s := shelf{at: x.Kept()}
	return s.from(x.at, p)
}

func (x *rider) costs(before, most int, what string, arg any) {
	x.Helper()
	if got := x.Cost() - before; got < 0 || got > most {
		x.Fatalf("%s\nevery %d, room %d: %s %v to %d costs %d, want at most %d", x.text(), x.every, x.room, what, arg, x.at, got, most)
	}
}

func (x *rider) seek(p int) {
	x.Helper()
	before, most := x.Cost(), 0
	want := api.ErrPlace
	if p >= 0 && p <= x.w.end() {
		want, most = api.OK, p-x.from(p)
		x.at = p
	}
	if e := x.Seek(p); e != want {
		x.Fatalf("%s\nSeek(%d): %d, want %d", x.text(), p, e, want)
	}
	x.costs(before, most, "Seek", p)
	x.stands("Seek", p)
}

func (x *rider) next(s replay.Stop) bool {
	x.Helper()
	before, was := x.Cost(), x.at
	p, met := x.w.next(s, x.at)
	near, ahead := x.from(p), x.from(p-1)
	if x.at = p; x.Next(s) != met {
		x.Fatalf("%s\nNext(%v) from %d: %v", x.text(), s, was, !met)
	}
	most := p - was
	switch s.Kind {
	case 2: // copies tell how far the search need not go
		most = min(most, p-ahead)
	case 5: // there is no search
		most = p - near
	}
	x.costs(before, most, "Next", s)
	x.stands("Next", s)
	return met
}

func (x *rider) prev(s replay.Stop) bool {
	x.Helper()
	before, was := x.Cost(), x.at
	p, met := x.w.prev(s, x.at)
	near := shelf{at: x.Kept()}
	if x.at = p; x.Prev(s) != met {
		x.Fatalf("%s\nPrev(%v) from %d: %v", x.text(), s, was, !met)
	}
	most := was + p // the search, and the way
	switch s.Kind {
	case 2: // if it is met anywhere, then at the last one
		most = max(0, was-1-near.from(0, was-1))
	case 5: // there is no search
		most = p - near.from(0, p)
	}
	x.costs(before, most, "Prev", s)
	x.stands("Prev", s)
	return met
}

func (x *rider) first(n int) {
	x.Helper()
	before := x.Cost()
	want, wantE := x.w.first(n)
	most := max(0, want-x.from(want-1))
	if p, e := x.First(n); p != want || e != wantE {
		x.Fatalf("%s\nFirst(%d) at %d: %d, %d; want %d, %d", x.text(), n, x.at, p, e, want, wantE)
	}
	x.costs(before, most, "First", n)
	x.stands("First", n)
}

// riders are engines of a setting that keep copies in different ways, of the two builds.
func riders(t *testing.T, r *rand.Rand, s setting) []*rider {
	t.Helper()
	var l []*rider
	for i, b := range s.builds {
		w := wholeOf(t, b, s.input, s.fuel)
		for range 2 {
			x := &rider{T: t, setting: s, every: 1 + r.IntN(9), room: 1 + r.IntN(7), w: w}
			if r.IntN(6) == 0 {
				x.room = 1000
			}
			given := slices.Clone(s.input)
			x.Engine = engine(t, b, s.input, s.fuel, x.every, x.room)
			if !slices.Equal(given, s.input) {
				t.Fatalf("the input was changed, build %d", i)
			}
			l = append(l, x)
		}
	}
	return l
}

func TestMade(t *testing.T) { // P14.1 to P14.6, W4 against the second reading
	r := rand.New(rand.NewPCG(14, 1))
	stops, missed := [6]int{}, 0
	for range 400 {
		s := made(t, r)
		l := riders(t, r, s)
		if l[0].w.end() != l[2].w.end() {
			t.Fatalf("%s: the builds' runs are not of one length", s.text())
		}
		for range 40 {
			what, p := r.IntN(6), r.IntN(l[0].w.end()+4)-1
			stop := someStop(r, l[0].w)
			for _, x := range l {
				met := false
				switch what {
				case 0:
					x.seek(p)
				case 1, 2:
					met = x.next(stop)
				case 3, 4:
					met = x.prev(stop)
				case 5:
					x.first(p / 2)
				}
				if x.copies(); met {
					stops[stop.Kind]++
				} else {
					missed++
				}
			}
			same(t, s, l)
		}
	}
	for kind, n := range stops {
		if kind > 0 && n < 500 || missed < 500 {
			t.Errorf("stops of the kind %d: %d; missed: %d", kind, n, missed)
		}
	}
}

// same asks that engines of one setting answer the same, wherever they were before: what the machine is, and what is told of the variables (P14.5).
func same(t *testing.T, s setting, l []*rider) {
	t.Helper()
	m := [2]int{}
	plain := l[3].Machine()
	for k, x := range l {
		a := x.Machine()
		tick, _ := a.Tick()
		want, _ := plain.Tick()
		if tick != want || a.Ticks() != plain.Ticks() || a.Ended() != plain.Ended() || a.Frames() != plain.Frames() || !slices.Equal(a.Events(), plain.Events()) {
			t.Fatalf("%s: the engine %d at %d: %v, %v", s.text(), k, x.at, tick, want)
		}
		for f := range a.Frames() {
			for _, v := range gen.Told(s.builds[k/2], a, f) {
				got, e := gen.Value(s.builds[k/2], a, f, v)
				want, f := gen.Value(s.builds[1], plain, f, v)
				if e != api.OK || f != api.OK || !slices.Equal(got, want) {
					t.Fatalf("%s: the engine %d at %d: %v, %v (%d, %d)", s.text(), k, x.at, got, want, e, f)
				}
				m[k/2]++
			}
		}
	}
}

func TestHistories(t *testing.T) { // W4: each position is the program's, by whichever way one comes
	r := rand.New(rand.NewPCG(14, 2))
	for range 300 {
		s := made(t, r)
		h, e := fold.Run(s.Prog, s.input, s.fuel)
		if e != api.OK {
			t.Fatal(e)
		}
		g := engine(t, s.builds[r.IntN(2)], s.input, s.fuel, 1+r.IntN(5), 1+r.IntN(5))
		if g.End() != len(h.Pos)+1 {
			t.Fatalf("%s: %d ticks, End %d", s.text(), len(h.Pos), g.End())
		}
		for range 60 {
			p := r.IntN(g.End() + 1)
			if e := g.Seek(p); e != api.OK {
				t.Fatal(e)
			}
			m := g.Machine()
			tick, _ := m.Tick()
			switch {
			case p == 0:
				if m.Count() != 0 || m.Ticks() != 0 {
					t.Fatalf("%s: at 0", s.text())
				}
			case p == g.End():
				if !m.Ended() || !slices.Equal(m.Events(), h.Events) {
					t.Fatalf("%s: at the end", s.text())
				}
			case tick != h.Pos[p-1].Tick || !slices.Equal(m.Events(), h.Events[:h.Pos[p-1].Count]):
				t.Fatalf("%s: at %d: %v", s.text(), p, tick)
			}
		}
	}
}

func TestBackIsForwardTurnedRound(t *testing.T) { // P14.2, W4
	r := rand.New(rand.NewPCG(14, 3))
	for range 300 {
		s := made(t, r)
		w := wholeOf(t, s.builds[0], s.input, s.fuel)
		g := engine(t, s.builds[0], s.input, s.fuel, 1+r.IntN(5), 1+r.IntN(5))
		for range 4 {
			stop := someStop(r, w)
			var forth, back []int
			g.Seek(0)
			for g.Next(stop) {
				forth = append(forth, g.At())
			}
			if w.met(stop, g.At()) {
				back = append(back, g.At())
			}
			for g.Prev(stop) {
				back = append(back, g.At())
			}
			slices.Reverse(back)
			if len(back) > 0 && back[0] == 0 {
				forth = append([]int{0}, forth...)
			}
			if !slices.Equal(forth, back) || w.met(stop, 0) != (len(back) > 0 && back[0] == 0) {
				t.Fatalf("%s\n%v: forth %v, back %v", s.text(), stop, forth, back)
			}
		}
	}
}

func TestByOne(t *testing.T) { // P14.7
	r := rand.New(rand.NewPCG(14, 7))
	any := replay.Stop{Kind: 2}
	for range 200 {
		s := made(t, r)
		x := riders(t, r, s)[r.IntN(4)]
		for range 20 {
			x.seek(r.IntN(x.w.end() + 1))
			at := x.at
			if at < x.w.end() {
				x.next(any)
				x.prev(any)
				x.seek(at + 1)
				x.seek(at)
			}
			if at > 0 {
				x.prev(any)
				x.next(any)
				x.seek(at - 1)
				x.seek(at)
			}
			if x.at != at {
				t.Fatalf("%s: from %d to %d", s.text(), at, x.at)
			}
		}
	}
}

func TestKeptBySeek(t *testing.T) { // P14.4 against the second reading
	r := rand.New(rand.NewPCG(14, 4))
	cut := 0
	b := built(t, "proc main ( ) { while ( true ) { } }", true)
	for range 2000 {
		fuel := r.IntN(200)
		s := shelf{1 + r.IntN(5), 1 + r.IntN(8), []int{0}}
		g := engine(t, b, nil, fuel, s.every, s.room)
		for range 12 {
			p := r.IntN(g.End() + 1)
			begin := s.from(g.At(), p)
			if g.At() <= p && g.At() > begin {
				begin = g.At()
			}
			for q := begin + 1; q <= p; q++ {
				s.through(q)
			}
			before := g.Cost()
			if e := g.Seek(p); e != api.OK || g.Cost()-before != p-begin {
				t.Fatalf("Seek(%d): %d, cost %d, want %d", p, e, g.Cost()-before, p-begin)
			}
			if !slices.Equal(g.Kept(), s.at) {
				t.Fatalf("every %d, room %d, at %d: %v, want %v", s.every, s.room, p, g.Kept(), s.at)
			}
			if len(s.at) == s.room && s.room > 2 {
				cut++
			}
		}
	}
	if cut < 2000 {
		t.Errorf("%d with as many copies as there may be", cut)
	}
}

func FuzzReplay(f *testing.F) { // P1, P14.1 to P14.6
	for seed := range uint64(10) {
		f.Add(seed, []byte{0, 7, 1, 3, 2, 200, 3, 40, 4, 9, 5, 1})
	}
	f.Fuzz(func(t *testing.T, seed uint64, steps []byte) {
		r := rand.New(rand.NewPCG(seed, 14))
		x := riders(t, r, made(t, r))[r.IntN(4)]
		for i := 0; i+1 < len(steps) && i < 100; i += 2 {
			n := int(steps[i+1])
			stop := replay.Stop{Kind: n % 7, Proc: n / 7 % 4, Mark: n / 28, N: n / 7}
			switch steps[i] % 4 {
			case 0:
				x.seek(n - 5)
			case 1:
				x.next(stop)
			case 2:
				x.prev(stop)
			case 3:
				x.first(n/4 - 2)
			}
			x.copies()
		}
	})
}
