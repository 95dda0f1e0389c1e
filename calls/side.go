package calls

import (
	"slices"

	"parallax/api"
	"parallax/check"
	"parallax/gen"
	"parallax/replay"
	"parallax/vm"
)

// side is one of two runs that are held against each other. Its machine is where the report has come to: that asks for one position behind the other, so that nothing is gone back to.
type side struct {
	build   gen.Build
	info    check.Info
	calls   []Call
	machine *vm.Machine
}

// open is the side of a build whose program is right.
func open(b gen.Build, input []int64, fuel int) (*side, api.Errno) {
	g, e := replay.New(b, input, fuel, 1, 1)
	if e != api.OK {
		return nil, e
	}
	s := &side{build: b, machine: g.Machine()}
	s.tellAll(input, fuel)
	s.info, _, _ = check.Check(b.Prog)
	s.calls, e = callsOf(ticks(s.machine.Copy()))
	return s, e
}

// callsOf are the calls of ticks up to a machine's end. Without fuel there are no ticks: that is no run to Tree, but nothing is wrong with a machine that makes no calls.
func callsOf(l []api.Tick) ([]Call, api.Errno) {
	if len(l) == 0 {
		return nil, api.OK
	}
	return Tree(l)
}

// tellAll takes a plain build in the place of a lean one, which may not tell what was not kept when it was compiled: what builds tell is to play no part. Both tick alike.
func (s *side) tellAll(input []int64, fuel int) {
	if s.build.Plain {
		return
	}
	plain, _, e := gen.Compile(s.build.Prog, nil, true)
	if e != api.OK { // too long: what the lean one tells must do
		return
	}
	if m, e := gen.Start(plain, input, fuel); e == api.OK {
		s.build, s.machine = plain, m
	}
}

// ticks are those of a machine up to its end.
func ticks(m *vm.Machine) []api.Tick {
	var l []api.Tick
	for m.Step() {
		tick, _ := m.Tick()
		l = append(l, tick)
	}
	return l
}

func (s *side) proc(k int) api.Proc { return s.build.Prog.Procs[k] }

// number is that of the procedure of a name.
func (s *side) number(name string) int {
	return slices.IndexFunc(s.build.Prog.Procs, func(p api.Proc) bool { return p.Name == name })
}

// goOn goes on to the tick of a position.
func (s *side) goOn(position int) {
	for s.machine.Ticks() < position && s.machine.Step() {
	}
}

// value is that of the variable of a name, in the call that is entered or left; nothing, if it is not in scope.
func (s *side) value(proc int, name string) []int64 {
	tick, _ := s.machine.Tick()
	v := check.Find(s.info.Vars[proc], name, tick.Mark)
	l, _ := gen.Value(s.build, s.machine, s.machine.Frames()-1, v)
	return l
}

// answer is what the call answers that is left; nothing of one that is entered, or that answers nothing.
func (s *side) answer() []int64 {
	n, e := gen.Answer(s.build, s.machine, s.machine.Frames()-1)
	if e != api.OK {
		return nil
	}
	return []int64{n}
}
