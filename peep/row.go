package peep

import (
	"parallax/api"
	"parallax/code"
)

// none is no place: the one ahead of the first instruction, and that to which an instruction leads that leads nowhere.
const none = -1

// row is the instructions of a code that is made short. None of them moves up before the end, as that would take time at each change: those that go leave holes, and what is put in the place of several stands at the last one's. A jump then leads to the first instruction that is there from its number on, and keeps its number, whatever goes. Behind all stands an end, which is no instruction and never goes.
type row struct {
	ins   []api.Ins
	spots []spot
	low   int // no place ahead of it waits
}

// spot is what is known of a place.
type spot struct {
	skip    int // the place itself; of a hole one behind it, none that is there being between
	ahead   int // the place of the instruction ahead
	sources int // how many jumps and zeros that can be reached lead to it
	reached bool
	waits   bool // at a place that does not wait no rule fits
}

// lay lays the instructions of a code out, if it has heights.
func lay(l []api.Code, k int) (*row, bool) {
	heights, ok := code.Heights(l, k)
	if !ok {
		return nil, false
	}
	given, size := l[k].Ins, len(heights)
	r := &row{ins: append(given[:size:size], api.Ins{}), spots: make([]spot, size+1)} // without the third index the end could be put behind the given ones, in their memory
	for at := range r.spots {
		r.spots[at] = spot{skip: at, ahead: at - 1, reached: at < size && heights[at] >= 0, waits: true}
	}
	for at, i := range given {
		if r.spots[at].reached {
			r.count(i, 1)
		}
	}
	return r, true
}

// end is the place behind the last one.
func (r *row) end() int { return len(r.ins) - 1 }

// find is the first place from one on that is no hole. What is skipped is skipped faster the next time.
func (r *row) find(at int) int {
	for r.spots[at].skip != at {
		r.spots[at].skip = r.spots[r.spots[at].skip].skip
		at = r.spots[at].skip
	}
	return at
}

// behind is the place that comes behind one.
func (r *row) behind(at int) int { return r.find(min(at+1, r.end())) }

// target is where a jump or a zero leads; of others nowhere.
func (r *row) target(i api.Ins) int {
	if !leads(i) {
		return none
	}
	return r.find(int(i.N))
}

// window is what the rules ask of a place.
func (r *row) window(at int) window {
	next := r.behind(at)
	w := window{i: r.ins[at], j: r.free(next), k: r.free(r.behind(next)), reached: r.spots[at].reached, next: next, beyond: none}
	w.target = r.target(w.i)
	if w.target != none {
		w.there = r.ins[w.target]
		w.beyond = r.target(w.there)
	}
	return w
}

// free is the instruction at a place that is no target.
func (r *row) free(at int) api.Ins {
	if r.spots[at].sources > 0 {
		return api.Ins{}
	}
	return r.ins[at]
}

// search finds the first place, of those from one on and ahead of another, at which a rule fits, and the first rule that does.
func (r *row) search(from, to int) (int, change) {
	at, found := r.find(from), change{}
searching:
	for ; at < to; at = r.behind(at) {
		if !r.spots[at].waits {
			continue
		}
		w := r.window(at)
		for rule := 1; rule <= lastRule; rule++ {
			if c, ok := w.fits(rule); ok {
				found = c
				found.rule = rule
				break searching
			}
		}
		r.spots[at].waits = false
	}
	return at, found
}

// once does the first rule that fits at the first place at which any does, and tells whether there is one.
func (r *row) once() bool {
	at, c := r.search(r.low, r.end())
	r.low = at
	if c.rule == 0 {
		return false
	}
	r.do(at, c)
	return true
}

// do does a rule at a place. Of the instructions that it takes the last one alone may lead anywhere.
func (r *row) do(at int, c change) {
	last := at
	for range c.takes - 1 {
		r.leaveOut(last)
		last = r.find(last)
	}
	went, counted := r.ins[last], r.spots[last].reached
	if c.puts.Op == 0 {
		r.leaveOut(last)
	} else {
		r.ins[last] = c.puts
		r.count(c.puts, 1)
	}
	if counted {
		r.count(went, -1)
	}
	r.changed(r.find(at))
	switch c.rule {
	case 4:
		r.passed(r.target(went))
	case 10:
		r.review()
	}
}

// leaveOut makes a hole of a place. What led to it leads to the one behind it.
func (r *row) leaveOut(at int) {
	s, next := &r.spots[at], &r.spots[r.behind(at)]
	next.ahead = s.ahead
	next.sources += s.sources
	*s = spot{skip: at + 1}
}

// count counts an instruction that can be reached at the place to which it leads. One that is a target no more may be taken by rules ahead of it.
func (r *row) count(i api.Ins, by int) {
	target := r.target(i)
	if target == none {
		return
	}
	r.spots[target].sources += by
	if r.spots[target].sources == 0 {
		r.wakeAhead(target)
	}
}

// wake lets a place wait.
func (r *row) wake(at int) {
	r.spots[at].waits = true
	r.low = min(r.low, at)
}

// wakeAhead wakes the two places from which rules see this one.
func (r *row) wakeAhead(at int) {
	for range 2 {
		at = r.spots[at].ahead
		if at == none {
			return
		}
		r.wake(at)
	}
}

// changed wakes the places at which rules may fit as there is another instruction at one now. Those that lead there ask of it whether it is a jump.
func (r *row) changed(at int) {
	r.wake(at)
	r.wakeAhead(at)
	if r.ins[at].Op != api.OpJump || r.spots[at].sources == 0 {
		return
	}
	for from, i := range r.ins {
		if r.spots[from].reached && r.target(i) == at {
			r.wake(from)
		}
	}
}

// passed asks whether a jump to which one led, which leads on to that one's target now, can still be reached. What was reached by way of it is reached past it: nothing else can be lost.
func (r *row) passed(at int) {
	s := r.spots[at]
	if s.sources == 0 && s.ahead != none && !r.fallsThrough(s.ahead) {
		r.lose(at)
	}
}

// fallsThrough tells whether one comes from an instruction to the one behind it.
func (r *row) fallsThrough(at int) bool {
	return r.spots[at].reached && r.ins[at].Op != api.OpJump && r.ins[at].Op != api.OpLeave
}

// lose makes a place one that can not be reached.
func (r *row) lose(at int) {
	r.spots[at].reached = false
	r.wake(at)
	r.count(r.ins[at], -1)
}

// review loses all that can not be reached any more.
func (r *row) review() {
	now := r.reach()
	for at := range now {
		if r.spots[at].reached && !now[at] {
			r.lose(at)
		}
	}
}

// reach finds the places that can be reached.
func (r *row) reach() []bool {
	reached := make([]bool, len(r.ins))
	waiting := []int{r.find(0)}
	for len(waiting) > 0 {
		at := waiting[len(waiting)-1]
		waiting = waiting[:len(waiting)-1]
		for !reached[at] {
			reached[at] = true
			i := r.ins[at]
			switch i.Op {
			case api.OpZero:
				waiting = append(waiting, r.target(i))
				at = r.behind(at)
			case api.OpJump:
				at = r.target(i)
			case api.OpLeave: // none comes next
			default:
				at = r.behind(at)
			}
		}
	}
	return reached
}

// closed is a code with the instructions that are there, moved up, and all else as it was.
func (r *row) closed(c api.Code) api.Code {
	places := make([]int64, len(r.ins))
	c.Ins = nil
	for at := r.find(0); at < r.end(); at = r.behind(at) {
		places[at] = int64(len(c.Ins))
		c.Ins = append(c.Ins, r.ins[at])
	}
	for k, i := range c.Ins {
		if leads(i) {
			c.Ins[k].N = places[r.target(i)]
		}
	}
	return c
}
