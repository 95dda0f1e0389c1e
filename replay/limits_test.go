package replay_test

import (
	"slices"
	"testing"

	"parallax/api"
	"parallax/replay"
)

func TestLongRun(t *testing.T) { // P1, P14.2 to P14.6 at the most fuel there may be
	b := built(t, "proc main ( ) { var x ; while ( true ) { x = x + 1 ; if ( x % 1000 == 0 ) { print x ; } } }", false)
	for _, c := range []struct{ every, room int }{{1, 50}, {16, 8}, {1000, 2000}, {1 << 30, 1 << 30}} {
		g := engine(t, b, nil, api.MaxFuel, c.every, c.room)
		end := api.MaxFuel + 1
		if g.End() != end || g.Seek(end) != api.OK || g.Cost() != end || len(g.Kept()) > c.room {
			t.Fatalf("every %d, room %d: End %d, cost %d, %d copies", c.every, c.room, g.End(), g.Cost(), len(g.Kept()))
		}
		if c.every == 1000 && len(g.Kept()) != end/1000+1 || c.every == 1<<30 && len(g.Kept()) != 1 {
			t.Errorf("every %d, room %d: %d copies", c.every, c.room, len(g.Kept()))
		}
		widest := 0 // no two copies are far from each other
		for i, p := range append(g.Kept(), end)[1:] {
			widest = max(widest, p-g.Kept()[i])
		}
		if c.room > 4 && c.every < end && widest > 4*max(c.every, end/c.room) {
			t.Errorf("every %d, room %d: copies at %v", c.every, c.room, g.Kept())
		}
		events := g.Machine().Count()
		if p, e := g.First(events); p != end || e != api.OK {
			t.Errorf("First(%d): %d, %d", events, p, e)
		}
		print := replay.Stop{Kind: 1, Mark: 5}
		if !g.Prev(print) || g.At() >= end || g.At() < end-4000 {
			t.Errorf("the last print: %d", g.At())
		}
		at := g.At()
		if !g.Prev(print) || !g.Next(print) || g.At() != at {
			t.Errorf("the last print: %d, then %d", at, g.At())
		}
		if g.Prev(replay.Stop{Kind: 1, Mark: 99}) || g.At() != 0 {
			t.Errorf("a stop that is nowhere: %d", g.At())
		}
	}
}

func TestDeepRun(t *testing.T) { // P14.2 with as many frames as there may be, that have arrays
	b := built(t, "proc main ( ) { var x [ 64 ] ; x [ 3 ] = 5 ; main ( ) ; print x [ 3 ] ; }", true)
	w := wholeOf(t, b, nil, 1000)
	g := engine(t, b, nil, 1000, 3, 5)
	if last := w[w.end()].events; !slices.Equal(last, []api.Event{{Kind: api.EvTrap, N: api.TrapDepth}}) || g.End() != w.end() {
		t.Fatalf("%v, %d of %d", last, g.End(), w.end())
	}
	for p := w.end(); p >= 0; p-- {
		if e := g.Seek(p); e != api.OK || !alike(seen(g.Machine()), w[p]) {
			t.Fatalf("at %d: %d", p, e)
		}
	}
	for depth := 1; depth <= api.MaxDepth; depth++ {
		g.Seek(g.End())
		if !g.Prev(replay.Stop{Kind: 3, N: depth}) || g.Machine().Frames() != depth {
			t.Errorf("depth %d: at %d", depth, g.At())
		}
	}
}
