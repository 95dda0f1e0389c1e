package vm_test

import (
	"math/rand/v2"
	"reflect"
	"slices"
	"strings"
	"testing"

	"parallax/api"
	"parallax/code"
	"parallax/sample"
	"parallax/vm"
)

// seenOf is what is seen of a machine.
func seenOf(t *testing.T, m *vm.Machine) view {
	t.Helper()
	tick, ticked := m.Tick()
	v := view{ticks: m.Ticks(), tick: tick, events: m.Events(), ended: m.Ended()}
	if ticked != (m.Ticks() > 0) || m.Count() != len(v.events) {
		t.Fatalf("a tick: %v of %d; events: %d of %d", ticked, m.Ticks(), m.Count(), len(v.events))
	}
	for k := range m.Frames() {
		proc, mark, cells, ok := m.Frame(k)
		if !ok {
			t.Fatalf("no frame %d of %d", k, m.Frames())
		}
		v.frames = append(v.frames, shape{proc, mark, cells})
	}
	return v
}

// alike tells whether the same is seen.
func alike(a, b view) bool {
	return a.ticks == b.ticks && a.tick == b.tick && a.ended == b.ended && slices.Equal(a.events, b.events) &&
		slices.EqualFunc(a.frames, b.frames, func(x, y shape) bool {
			return x.proc == y.proc && x.mark == y.mark && slices.Equal(x.cells, y.cells)
		})
}

// run is what is seen of a machine at first, and behind each step.
func run(t *testing.T, m *vm.Machine) []view {
	t.Helper()
	all := []view{seenOf(t, m)}
	for {
		ticks := m.Ticks()
		ticked := m.Step()
		all = append(all, seenOf(t, m))
		if ticked == m.Ended() || m.Ticks()-ticks != count(ticked) {
			t.Fatalf("a step: %v; ticks: %d, and then %d; ended: %v", ticked, ticks, m.Ticks(), m.Ended())
		}
		if !ticked {
			return all
		}
	}
}

func count(b bool) int {
	if b {
		return 1
	}
	return 0
}

// setting is what a machine is made of.
type setting struct {
	codes []api.Code
	main  int
	input []int64
	fuel  int
}

// made is a setting, the same one for a seed in each run: of sound codes, a few of which were bent and still are sound.
func made(seed uint64) (setting, *rand.Rand) {
	r := rand.New(rand.NewPCG(seed, 19))
	l, main := sample.Codes(r.IntN)
	for range r.IntN(4) {
		if bent := sample.BentCodes(r.IntN, l); code.Sound(bent, main) && comesBackToMarks(bent) {
			l = bent
		}
	}
	s := setting{codes: l, main: main, fuel: r.IntN(60)}
	for range r.IntN(8) {
		s.input = append(s.input, int64(r.IntN(9)-2))
	}
	return s, r
}

// comesBackToMarks tells whether no code leads back but to a mark, or to a read: others may run for long.
func comesBackToMarks(l []api.Code) bool {
	for _, c := range l {
		for place, i := range c.Ins {
			if (i.Op == api.OpJump || i.Op == api.OpZero) && i.N <= int64(place) && c.Ins[i.N].Op != api.OpMark && c.Ins[i.N].Op != api.OpRead {
				return false
			}
		}
	}
	return true
}

func (s setting) start(t *testing.T) *vm.Machine {
	t.Helper()
	m, e := vm.New(s.codes, s.main, s.input, s.fuel)
	if e != api.OK {
		t.Fatalf("New(%v): %d", s, e)
	}
	return m
}

// text is a setting's, for what is told of a fault.
func (s setting) text() string {
	var b strings.Builder
	for _, c := range s.codes {
		b.WriteString(code.Print(c) + "\n")
	}
	return b.String()
}

// asks holds a run against the second reading, and against what must follow, and tells its last event.
func asks(t *testing.T, s setting) api.Event {
	t.Helper()
	before := sample.CopyCodes(s.codes)
	m := s.start(t)
	got, want := run(t, m), views(s.codes, s.main, s.input, s.fuel)
	if !slices.EqualFunc(got, want, alike) {
		t.Fatalf("%s%v\n%v\nwant\n%v", s.text(), s, got, want)
	}
	if !reflect.DeepEqual(sample.CopyCodes(s.codes), before) {
		t.Fatalf("%v was changed", before)
	}
	end := got[len(got)-1]
	if end.ticks > s.fuel { // P9.5
		t.Fatalf("%s%d ticks, fuel %d", s.text(), end.ticks, s.fuel)
	}
	for k, e := range end.events {
		if ends := e.Kind == api.EvEnd || e.Kind == api.EvTrap || e.Kind == api.EvFuel; ends != (k == len(end.events)-1) { // P9.5
			t.Fatalf("%s events %v", s.text(), end.events)
		}
	}
	for range 3 { // P9.9
		if m.Step() || !alike(seenOf(t, m), end) {
			t.Fatalf("%s behind the end: %v; want %v", s.text(), seenOf(t, m), end)
		}
	}
	return end.events[len(end.events)-1]
}

func TestMade(t *testing.T) { // P9.2, P9.3, P9.5, P9.9 against a second reading
	ends := map[api.Event]int{}
	for seed := range uint64(5000) {
		s, _ := made(seed)
		ends[asks(t, s)]++
	}
	for trap := api.TrapZero; trap <= api.TrapInput; trap++ {
		if n := ends[api.Event{Kind: api.EvTrap, N: int64(trap)}]; n < 10 {
			t.Errorf("%d end with the trap %d", n, trap)
		}
	}
	if ends[api.Event{Kind: api.EvEnd}] < 500 || ends[api.Event{Kind: api.EvFuel}] < 500 {
		t.Errorf("%v", ends)
	}
}

// begins tells whether a run is the beginning of another one, but for its last event.
func begins(a, b []view) bool {
	if len(a) > len(b) {
		return false
	}
	last := len(a) - 1
	events := a[last].events[:len(a[last].events)-1]
	return slices.EqualFunc(a[:last], b[:last], alike) && len(events) <= len(b[last].events) && slices.Equal(events, b[last].events[:len(events)])
}

func TestMoreFuel(t *testing.T) { // P9.6
	more := 0
	for seed := range uint64(1500) {
		s, r := made(seed)
		a := run(t, s.start(t))
		s.fuel += 1 + r.IntN(40)
		b := run(t, s.start(t))
		events := a[len(a)-1].events
		short := events[len(events)-1].Kind == api.EvFuel
		if short && !begins(a, b) || !short && !slices.EqualFunc(a, b, alike) {
			t.Fatalf("%s\n%v\nwith more fuel\n%v", s.text(), a, b)
		}
		more += count(len(b) > len(a))
	}
	if more < 100 {
		t.Errorf("%d have more ticks", more)
	}
}

func TestMoreInput(t *testing.T) { // P9.7
	more := 0
	for seed := range uint64(1500) {
		s, r := made(seed)
		a := run(t, s.start(t))
		for range 1 + r.IntN(4) {
			s.input = append(s.input, int64(r.IntN(9)-2))
		}
		b := run(t, s.start(t))
		events := a[len(a)-1].events
		short := events[len(events)-1] == api.Event{Kind: api.EvTrap, N: api.TrapInput}
		if short && !begins(a, b) || !short && !slices.EqualFunc(a, b, alike) {
			t.Fatalf("%s\n%v\nwith more input\n%v", s.text(), a, b)
		}
		more += count(len(b[len(b)-1].events) > len(events))
	}
	if more < 50 {
		t.Errorf("%d have more events", more)
	}
}

func TestMadeCopies(t *testing.T) { // P9.4, P9.8
	for seed := range uint64(1500) {
		s, r := made(seed)
		all := run(t, s.start(t))
		machines, at := []*vm.Machine{s.start(t)}, []int{0}
		for range 60 {
			k := r.IntN(len(machines))
			if r.IntN(3) == 0 {
				machines, at = append(machines, machines[k].Copy()), append(at, at[k])
			} else {
				machines[k].Step()
				at[k] = min(at[k]+1, len(all)-1)
			}
			for k, m := range machines {
				if got := seenOf(t, m); !alike(got, all[at[k]]) {
					t.Fatalf("%s copy %d at %d: %v; want %v", s.text(), k, at[k], got, all[at[k]])
				}
			}
		}
	}
}

func FuzzVm(f *testing.F) {
	for seed := range uint64(20) {
		f.Add(seed)
	}
	f.Fuzz(func(t *testing.T, seed uint64) {
		s, _ := made(seed)
		asks(t, s)
	})
}
