package session

import (
	"slices"

	"parallax/api"
	"parallax/check"
	"parallax/decl"
	"parallax/gen"
	"parallax/replay"
	"parallax/syntax"
)

// What may be wrong.
const (
	leftSource = iota + 1
	rightSource
	declarations
	settings // the input, the fuel or the copies
)

// The sides, as declarations number them.
const (
	left = iota
	right
	sides // how many there are
)

// read reads and builds what is to be opened. What the declarations keep is known ahead of the builds, but what is wrong with them is told behind the sources.
func (x Setup) read() (decl.File, [sides]gen.Build, Fault) {
	var builds [sides]gen.Build
	file, at, wrong := decl.Parse(x.Decl)
	sources, plain := [sides]string{x.Left, x.Right}, [sides]bool{x.PlainLeft, x.PlainRight}
	for i, source := range sources {
		var fault Fault
		if builds[i], fault = built(source, decl.Kept(file, i), plain[i]); fault.Code != api.OK {
			fault.Which = leftSource + i
			return file, builds, fault
		}
	}
	if wrong != api.OK {
		return file, builds, Fault{declarations, at, wrong}
	}
	return file, builds, x.fits(file, builds)
}

// built is the build of a source; which one it is the fault leaves open.
func built(source string, keep []gen.Keep, plain bool) (gen.Build, Fault) {
	p, at, e := syntax.Parse(source)
	if e != api.OK {
		return gen.Build{}, Fault{At: at, Code: e}
	}
	if _, place, e := check.Check(p); e != api.OK {
		return gen.Build{}, Fault{At: standing(source, p, place, e), Code: e}
	}
	b, _, e := gen.Compile(p, keep, plain)
	return b, Fault{Code: e}
}

// standing is where in its source stands what Check says is wrong.
func standing(source string, p api.Prog, at check.Place, e api.Errno) int {
	if at == (check.Place{}) && ofWhole(p, e) {
		return 0
	}
	places, _ := syntax.Places(source)
	return places[at.Proc][at.Mark]
}

// ofWhole tells whether an error at the mark 0 of the first procedure is the whole program's: Check tells both by one place, but the whole program's ahead.
func ofWhole(p api.Prog, e api.Errno) bool {
	switch e {
	case api.ErrLong:
		return len(p.Procs) > api.MaxProcs
	case api.ErrName:
		return nameTwice(p.Procs)
	}
	return true
}

func nameTwice(l []api.Proc) bool {
	var names []string
	for _, p := range l {
		names = append(names, p.Name)
	}
	slices.Sort(names)
	return len(slices.Compact(names)) < len(l)
}

// fits tells what of the declarations does not fit the programs, or can not be told of their builds.
func (x Setup) fits(file decl.File, builds [sides]gen.Build) Fault {
	if spot, e := decl.Check(file, builds[left].Prog, builds[right].Prog); e != api.OK {
		places, _ := decl.Places(x.Decl)
		return Fault{declarations, places[spot.Kind-1][spot.Index], e}
	}
	for i, b := range builds {
		if e := asks(file, i, b); e != api.OK {
			return Fault{Which: declarations, Code: e}
		}
	}
	return Fault{}
}

// asks tells whether a side asks what its build may not tell.
func asks(file decl.File, number int, b gen.Build) api.Errno {
	if b.Plain {
		return api.OK
	}
	return decl.Clear(file, number, b.Prog)
}

// begin is a side ahead of its first tick.
func (x Setup) begin(number int, b gen.Build, file decl.File) (*side, api.Errno) {
	g, e := replay.New(b, x.Input, x.Fuel, x.Every, x.Room)
	if e != api.OK {
		return nil, e
	}
	s := &side{Engine: g, build: b, number: number}
	for _, stop := range file.Breaks {
		if stop.Side == number {
			s.breaks = append(s.breaks, stop)
		}
	}
	for _, w := range file.Watches {
		if w.Side == number {
			s.watches = append(s.watches, w)
		}
	}
	return s, api.OK
}
