package replay_test

import (
	"math"
	"slices"
	"testing"

	"parallax/api"
	"parallax/gen"
	"parallax/replay"
	"parallax/syntax"
)

func built(t *testing.T, source string, plain bool) gen.Build {
	t.Helper()
	p, at, e := syntax.Parse(source)
	if e != api.OK {
		t.Fatalf("%s: %d at %d", source, e, at)
	}
	b, place, e := gen.Compile(p, nil, plain)
	if e != api.OK {
		t.Fatalf("%s: %d at %v", source, e, place)
	}
	return b
}

func engine(t *testing.T, b gen.Build, input []int64, fuel, every, room int) *replay.Engine {
	t.Helper()
	g, e := replay.New(b, input, fuel, every, room)
	if e != api.OK || g == nil {
		t.Fatalf("New: %d", e)
	}
	return g
}

// counting has the ticks 1 and 2 at the marks 0 and 1, thrice three at 2, 3, 4 from 3 on, 12 at 2, 13 at 5.
const counting = "proc main ( ) { var x ; while ( x < 3 ) { print x ; x = x + 1 ; } }"

// deeper has ticks of two procedures: main enters, calls f at the mark 1, prints at 2, calls f at 3.
const deeper = "proc f ( int a ) { print a ; } proc main ( ) { f ( 7 ) ; print 8 ; f ( 9 ) ; }"

func TestNew(t *testing.T) { // P14.1
	b := built(t, counting, true)
	g := engine(t, b, nil, 100, 2, 3)
	if g.At() != 0 || g.End() != 14 || g.Cost() != 0 || !slices.Equal(g.Kept(), []int{0}) {
		t.Errorf("at first: %d of %d, cost %d, copies %v", g.At(), g.End(), g.Cost(), g.Kept())
	}
	if m := g.Machine(); m.Ticks() != 0 || m.Ended() || m.Frames() != 1 {
		t.Errorf("at first: %v", seen(m))
	}
	for _, c := range []struct{ fuel, end int }{{0, 1}, {1, 2}, {5, 6}, {12, 13}, {13, 14}, {14, 14}, {api.MaxFuel, 14}} {
		if g := engine(t, b, nil, c.fuel, 1, 1); g.End() != c.end {
			t.Errorf("fuel %d: End %d, want %d", c.fuel, g.End(), c.end)
		}
	}
}

func TestNewErrors(t *testing.T) { // P14.1
	b := built(t, counting, false)
	unsound := b
	unsound.Codes = nil
	other := b
	other.Main = 5
	long := make([]int64, api.MaxInput+1)
	for _, c := range []struct {
		b                 gen.Build
		input             []int64
		fuel, every, room int
		e                 api.Errno
	}{
		{b, nil, 10, 1, 1, api.OK},
		{b, long[:api.MaxInput], api.MaxFuel, math.MaxInt, math.MaxInt, api.OK},
		{b, nil, 10, 0, 1, api.ErrArg},
		{b, nil, 10, -1, 1, api.ErrArg},
		{b, nil, 10, 1, 0, api.ErrArg},
		{b, nil, 10, 1, math.MinInt, api.ErrArg},
		{b, nil, 10, math.MinInt, math.MinInt, api.ErrArg},
		{b, nil, -1, 1, 1, api.ErrArg},
		{b, nil, api.MaxFuel + 1, 1, 1, api.ErrArg},
		{b, long, 10, 1, 1, api.ErrArg},
		{unsound, nil, 10, 1, 1, api.ErrCode},
		{unsound, nil, 10, 0, 0, api.ErrCode},
		{other, long, -1, 0, 0, api.ErrCode},
		{gen.Build{}, nil, 10, 1, 1, api.ErrCode},
	} {
		if g, e := replay.New(c.b, c.input, c.fuel, c.every, c.room); e != c.e || (g == nil) != (e != api.OK) {
			t.Errorf("fuel %d, every %d, room %d, %d numbers: %d, want %d", c.fuel, c.every, c.room, len(c.input), e, c.e)
		}
	}
}

func TestNoEngine(t *testing.T) { // P14.1, P14.2, P14.3
	for _, g := range []*replay.Engine{nil, {}} {
		if g.At() != 0 || g.End() != 0 || g.Machine() != nil || len(g.Kept()) != 0 || g.Cost() != 0 {
			t.Errorf("%v is somewhere", g)
		}
		for _, p := range []int{-1, 0, 1, math.MaxInt} {
			if e := g.Seek(p); e != api.ErrNil {
				t.Errorf("Seek(%d): %d", p, e)
			}
		}
		for kind := range 8 {
			if s := (replay.Stop{Kind: kind}); g.Next(s) || g.Prev(s) {
				t.Errorf("%v is met", s)
			}
		}
		for _, c := range []struct {
			n int
			e api.Errno
		}{{0, api.ErrNil}, {1, api.ErrNil}, {math.MaxInt, api.ErrNil}, {-1, api.ErrPlace}, {math.MinInt, api.ErrPlace}} {
			if p, e := g.First(c.n); p != 0 || e != c.e {
				t.Errorf("First(%d): %d, %d, want %d", c.n, p, e, c.e)
			}
		}
	}
}

func TestSeek(t *testing.T) { // P14.2
	g := engine(t, built(t, counting, true), nil, 100, 3, 2)
	for _, c := range []struct {
		p  int
		e  api.Errno
		at int
	}{
		{14, api.OK, 14}, {15, api.ErrPlace, 14}, {-1, api.ErrPlace, 14}, {0, api.OK, 0}, {7, api.OK, 7}, {7, api.OK, 7},
		{math.MaxInt, api.ErrPlace, 7}, {math.MinInt, api.ErrPlace, 7}, {6, api.OK, 6}, {13, api.OK, 13}, {14, api.OK, 14},
	} {
		cost, kept := g.Cost(), g.Kept()
		if e := g.Seek(c.p); e != c.e || g.At() != c.at {
			t.Errorf("Seek(%d): %d, at %d; want %d, at %d", c.p, e, g.At(), c.e, c.at)
		}
		if c.e != api.OK && (g.Cost() != cost || !slices.Equal(g.Kept(), kept)) {
			t.Errorf("Seek(%d) changed something", c.p)
		}
		m := g.Machine()
		if tick, _ := m.Tick(); m.Ended() != (c.at == 14) || m.Ticks() != min(c.at, 13) || c.at == 7 && tick != (api.Tick{Kind: api.MStmt, Mark: 3, Depth: 1}) {
			t.Errorf("at %d: %v", c.at, seen(m))
		}
	}
}

func TestStops(t *testing.T) { // P14.2: the positions forward, and back
	// deeper: 1 enter main, 2 at 1, 3 enter f, 4 at 1, 5 leave f, 6 at 2, 7 at 3, 8 enter f, 9 at 1, 10 leave f, 11 leave main, 12 the end. Prints of 7, 8, 9 are ahead of 5, 7, 10.
	all := []int{1, 2, 3, 4, 5, 6, 7, 8, 9, 10, 11}
	for _, c := range []struct {
		stop replay.Stop
		at   []int
		zero bool // is it met at 0?
	}{
		{replay.Stop{Kind: 1, Proc: 1, Mark: 0}, []int{1}, false},
		{replay.Stop{Kind: 1, Proc: 0, Mark: 0}, []int{3, 8}, false},
		{replay.Stop{Kind: 1, Proc: 0, Mark: 1, N: 50}, []int{4, 9}, false},
		{replay.Stop{Kind: 1, Proc: 1, Mark: 4}, []int{11}, false},
		{replay.Stop{Kind: 1, Proc: 2, Mark: 0}, nil, false},
		{replay.Stop{Kind: 1, Proc: 0, Mark: 3}, nil, false},
		{replay.Stop{Kind: 1, Proc: -1, Mark: -1}, nil, false},
		{replay.Stop{Kind: 2, N: 0}, append(slices.Clone(all), 12), true},
		{replay.Stop{Kind: 2, N: math.MinInt}, append(slices.Clone(all), 12), true},
		{replay.Stop{Kind: 2, N: 1, Proc: 9, Mark: 9}, []int{5, 6, 7, 8, 9, 10, 11, 12}, false},
		{replay.Stop{Kind: 2, N: 3}, []int{10, 11, 12}, false},
		{replay.Stop{Kind: 2, N: 4}, []int{12}, false},
		{replay.Stop{Kind: 2, N: 5}, nil, false},
		{replay.Stop{Kind: 2, N: math.MaxInt}, nil, false},
		{replay.Stop{Kind: 3, N: 0}, nil, false},
		{replay.Stop{Kind: 3, N: 1}, []int{1, 2, 6, 7, 11}, false},
		{replay.Stop{Kind: 3, N: 2}, all, false},
		{replay.Stop{Kind: 3, N: math.MaxInt}, all, false},
		{replay.Stop{Kind: 4, N: api.MEnter}, []int{1, 3, 8}, false},
		{replay.Stop{Kind: 4, N: api.MStmt}, []int{2, 4, 6, 7, 9}, false},
		{replay.Stop{Kind: 4, N: api.MLeave}, []int{5, 10, 11}, false},
		{replay.Stop{Kind: 4, N: 0}, nil, false},
		{replay.Stop{Kind: 4, N: 4}, nil, false},
		{replay.Stop{Kind: 5, N: 0}, nil, true},
		{replay.Stop{Kind: 5, N: 7}, []int{7}, false},
		{replay.Stop{Kind: 5, N: 12}, []int{12}, false},
		{replay.Stop{Kind: 5, N: 13}, nil, false},
		{replay.Stop{Kind: 5, N: -1}, nil, false},
		{replay.Stop{Kind: 0}, nil, false},
		{replay.Stop{Kind: 6, N: 1}, nil, false},
		{replay.Stop{Kind: -1}, nil, false},
		{replay.Stop{Kind: math.MaxInt}, nil, false},
	} {
		for _, plain := range []bool{true, false} {
			g := engine(t, built(t, deeper, plain), nil, 100, 2, 3)
			for _, p := range c.at {
				if !g.Next(c.stop) || g.At() != p {
					t.Errorf("%v: Next: %d, want %d", c.stop, g.At(), p)
				}
			}
			if g.Next(c.stop) || g.At() != 12 {
				t.Errorf("%v: Next behind the last one: %d", c.stop, g.At())
			}
			back := slices.Clone(c.at)
			slices.Reverse(back)
			if c.zero {
				back = append(back, 0)
			}
			if len(back) > 0 && back[0] == 12 {
				back = back[1:]
			}
			for _, p := range back {
				if !g.Prev(c.stop) || g.At() != p {
					t.Errorf("%v: Prev: %d, want %d", c.stop, g.At(), p)
				}
			}
			if g.Prev(c.stop) || g.At() != 0 {
				t.Errorf("%v: Prev ahead of the first one: %d", c.stop, g.At())
			}
		}
	}
}

func TestFirst(t *testing.T) { // P14.3
	g := engine(t, built(t, deeper, false), nil, 100, 4, 2)
	for _, at := range []int{0, 6, 12, 1} {
		if e := g.Seek(at); e != api.OK {
			t.Fatal(e)
		}
		before := seen(g.Machine())
		for _, c := range []struct {
			n, p int
			e    api.Errno
		}{
			{0, 0, api.OK}, {1, 5, api.OK}, {2, 7, api.OK}, {3, 10, api.OK}, {4, 12, api.OK}, {5, 0, api.ErrPlace},
			{-1, 0, api.ErrPlace}, {math.MaxInt, 0, api.ErrPlace}, {math.MinInt, 0, api.ErrPlace},
		} {
			if p, e := g.First(c.n); p != c.p || e != c.e {
				t.Errorf("at %d: First(%d): %d, %d; want %d, %d", at, c.n, p, e, c.p, c.e)
			}
			if g.At() != at || !alike(seen(g.Machine()), before) {
				t.Errorf("First(%d) went from %d to %d", c.n, at, g.At())
			}
		}
	}
	// The trap is ahead of no tick, but at the end, 5; the read is ahead of the tick 4.
	g = engine(t, built(t, "proc main ( ) { var x ; read x ; print 1 / x ; }", true), []int64{0}, 100, 4, 2)
	for n, want := range []int{0, 4, 5} {
		if p, e := g.First(n); p != want || e != api.OK {
			t.Errorf("First(%d): %d, %d; want %d", n, p, e, want)
		}
	}
}

func TestKept(t *testing.T) { // P14.4: which copies go
	b := built(t, "proc main ( ) { while ( true ) { } }", true)
	for _, c := range []struct {
		every, room int
		to          []int
		kept        []int
	}{
		{2, 3, []int{1}, []int{0}},
		{2, 3, []int{2}, []int{0, 2}},
		{2, 3, []int{4}, []int{0, 2, 4}},
		{2, 3, []int{7}, []int{0, 2, 4}}, // of 0, 2, 4, 6 the last one goes: from 4 to 6 is nearest
		{2, 3, []int{8}, []int{0, 4, 8}}, // of 0, 2, 4, 8: 4, 6 and 4 between neighbours: the first one
		{2, 3, []int{14}, []int{0, 4, 8}},
		{2, 3, []int{16}, []int{0, 8, 16}},
		{1, 1, []int{21, 3, 20}, []int{0}},
		{1, 2, []int{21}, []int{0, 1}}, // of 0, 1, p: p, and p - 1 between neighbours
		{3, 100, []int{21}, []int{0, 3, 6, 9, 12, 15, 18, 21}},
		{3, 100, []int{20, 0, 11}, []int{0, 3, 6, 9, 12, 15, 18}},
		{50, 100, []int{20}, []int{0}},
		{7, 100, []int{21}, []int{0, 7, 14, 21}}, // 21 is the end
		{math.MaxInt, math.MaxInt, []int{21, 4, 20}, []int{0}},
		{2, 3, []int{16, 3}, []int{0, 2, 8}}, // of 0, 2, 8, 16 with 2 gone through: 8, 14, and 6 from 8 to 2
		{2, 3, []int{16, 7}, []int{0, 2, 4}}, // then of 0, 2, 4, 8: 4, 6, and 0 from 4 to 4; then 6 itself goes
		{4, 4, []int{19}, []int{0, 4, 8, 12}},
		{4, 4, []int{20}, []int{0, 8, 12, 20}},    // of 0, 4, 8, 12, 20: 8, 8, 12, 8
		{4, 4, []int{20, 7}, []int{0, 8, 12, 20}}, // of 0, 4, 8, 12, 20 with 4 gone through: 8, 8, 12, and 8 from 12 to 4
		{4, 4, []int{20, 3, 9}, []int{0, 8, 12, 20}},
	} {
		g := engine(t, b, nil, 20, c.every, c.room)
		s := shelf{c.every, c.room, []int{0}}
		for _, p := range c.to {
			for q := s.from(g.At(), p) + 1; q <= p; q++ {
				s.through(q)
			}
			if e := g.Seek(p); e != api.OK {
				t.Fatal(p, e)
			}
		}
		if got := g.Kept(); !slices.Equal(got, c.kept) {
			t.Errorf("every %d, room %d, to %v: %v, want %v (%v)", c.every, c.room, c.to, got, c.kept, s.at)
		}
	}
}

func TestCost(t *testing.T) { // P14.4, P14.6
	b := built(t, "proc main ( ) { while ( true ) { } }", true)
	g := engine(t, b, nil, 100, 10, 100)
	for _, c := range []struct{ to, cost int }{
		{0, 0}, {25, 25}, {25, 0}, {20, 0}, {10, 0}, {19, 9}, {18, 8}, {35, 15}, {101, 66}, {99, 9}, {100, 0}, {91, 1}, {0, 0}, {101, 1},
	} {
		before := g.Cost()
		if e := g.Seek(c.to); e != api.OK || g.Cost()-before != c.cost {
			t.Errorf("to %d: cost %d, want %d (%d)", c.to, g.Cost()-before, c.cost, e)
		}
		before = g.Cost()
		if g.At(); g.End() != 101 || g.Machine() == nil || g.Cost() != before {
			t.Errorf("at %d: asking costs %d", c.to, g.Cost()-before)
		}
	}
	for _, c := range []struct {
		at   int
		back bool
		stop replay.Stop
		cost int
	}{
		{0, false, replay.Stop{Kind: 5, N: 57}, 7},
		{0, false, replay.Stop{Kind: 5, N: 500}, 1},
		{0, false, replay.Stop{Kind: 9}, 1},
		{0, false, replay.Stop{Kind: 2, N: 1}, 1},
		{0, false, replay.Stop{Kind: 4, N: api.MStmt}, 2},
		{0, true, replay.Stop{Kind: 4, N: api.MStmt}, 0},
		{101, true, replay.Stop{Kind: 5, N: 57}, 7},
		{101, true, replay.Stop{Kind: 5, N: 0}, 0},
		{101, true, replay.Stop{Kind: 2, N: 1}, 0},
		{98, true, replay.Stop{Kind: 3, N: 1}, 7},
		{101, true, replay.Stop{Kind: 6}, 0},
	} {
		if e := g.Seek(c.at); e != api.OK {
			t.Fatal(e)
		}
		before := g.Cost()
		if c.back {
			g.Prev(c.stop)
		} else {
			g.Next(c.stop)
		}
		if g.Cost()-before != c.cost {
			t.Errorf("%v from %d (back: %v): at %d, cost %d, want %d", c.stop, c.at, c.back, g.At(), g.Cost()-before, c.cost)
		}
	}
	if p, e := g.First(1); p != 101 || e != api.OK {
		t.Errorf("First(1): %d, %d", p, e)
	}
}

func TestCopiesOfTheEngine(t *testing.T) { // P14.8, and that nothing is kept of what is handed in
	b := built(t, deeper, true)
	input := []int64{1, 2}
	g := engine(t, b, input, 100, 2, 4)
	w := wholeOf(t, b, input, 100)
	for _, c := range b.Codes {
		clear(c.Ins)
	}
	clear(b.Codes)
	clear(input)
	for _, p := range []int{5, 12, 3, 0, 7} {
		if e := g.Seek(p); e != api.OK || !alike(seen(g.Machine()), w[p]) {
			t.Fatalf("at %d: %d", p, e)
		}
		m := g.Machine()
		for m.Step() {
		}
		if events := m.Events(); len(events) > 0 {
			events[0].N = 99
		}
		kept := g.Kept()
		before := slices.Clone(kept)
		for i := range kept {
			kept[i] = 99
		}
		if g.At() != p || !alike(seen(g.Machine()), w[p]) || !slices.Equal(g.Kept(), before) {
			t.Errorf("at %d: it was changed", p)
		}
		if g.Machine() == g.Machine() {
			t.Error("one machine is told twice")
		}
	}
}
