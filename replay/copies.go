package replay

import (
	"cmp"
	"slices"

	"parallax/vm"
)

// kept is a copy of the machine at a position.
type kept struct {
	at      int
	machine *vm.Machine
}

// position is where a machine is in its run.
func position(m *vm.Machine) int {
	if m.Ended() {
		return m.Ticks() + 1
	}
	return m.Ticks()
}

// goTo goes to a position that there is: from where the engine is, or from the last copy ahead, whichever is nearer.
func (g *Engine) goTo(p int) {
	c := g.ahead(p)
	if here := g.At(); here < c.at || here > p {
		g.machine = c.machine.Copy()
	}
	for g.At() < p {
		g.step()
	}
}

// step goes on by one position. All ways through a run, searches too, lead over it: no position is gone through without the copy that is to be kept there.
func (g *Engine) step() {
	g.machine.Step()
	g.cost++
	g.keep()
}

// ahead is the last copy at a position or ahead of it.
func (g *Engine) ahead(p int) kept {
	i, there := g.place(p)
	if !there {
		i--
	}
	return g.copies[i]
}

// place is where the copy of a position stands, or would stand, and whether there is one.
func (g *Engine) place(p int) (int, bool) {
	return slices.BinarySearchFunc(g.copies, p, func(c kept, p int) int { return cmp.Compare(c.at, p) })
}

// keep puts a copy down where the engine is, if there is to be one. Of one too many another one is cut out, into new memory: what was cut from stays as it is.
func (g *Engine) keep() {
	p := g.At()
	i, there := g.place(p)
	if there || p%g.every != 0 {
		return
	}
	if len(g.copies) == g.room {
		out := g.tooNear(i, p)
		switch {
		case out == i: // it would go at once
			return
		case out < i:
			i--
		default: // those behind the new one are numbered with it
			out--
		}
		g.copies = append(g.copies[:out:out], g.copies[out+1:]...)
	}
	g.copies = slices.Insert(g.copies, i, kept{p, g.machine.Copy()})
}

// tooNear is which copy goes, if one of the position p, at which the engine is, is put to them at i: the first one whose neighbours are nearest to each other.
func (g *Engine) tooNear(i, p int) int {
	at := func(k int) int { // of them all; there is none behind the last one, but the position that is gone through
		switch {
		case k < i:
			return g.copies[k].at
		case k == i || k > len(g.copies):
			return p
		}
		return g.copies[k-1].at
	}
	out, least := 1, apart(at(0), at(2))
	for k := 2; k <= len(g.copies); k++ {
		if d := apart(at(k-1), at(k+1)); d < least {
			out, least = k, d
		}
	}
	return out
}

// apart is how far two positions are from each other.
func apart(p, q int) int { return max(p, q) - min(p, q) }
