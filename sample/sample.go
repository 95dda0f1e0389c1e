// Package sample makes up programs that check takes, and codes that are sound, for the tests of the layers. Which one it makes hangs on the numbers that are picked, and on nothing else.
package sample

import "parallax/api"

// Pick answers a number from 0 to n - 1.
type Pick func(n int) int

// Prog makes a program.
func Prog(pick Pick) api.Prog {
	m := maker{pick: pick, heads: heads(pick)}
	var p api.Prog
	for i := range m.heads {
		p.Procs = append(p.Procs, m.proc(i))
	}
	return p
}

// heads makes procedures without bodies, main among them.
func heads(pick Pick) []api.Proc {
	l := []api.Proc{{Name: "main"}}
	for _, name := range [...]string{"f", "g", "h"} {
		if pick(2) == 0 {
			continue
		}
		h := api.Proc{Name: name, Type: pick(api.Bool + 1)}
		for _, param := range []string{"a", "b", "c"}[:pick(4)] {
			h.Params = append(h.Params, api.Param{Name: param, Type: valueType(pick)})
		}
		l = append(l, h)
	}
	i := pick(len(l))
	l[0], l[i] = l[i], l[0]
	return l
}

func valueType(pick Pick) int { return api.Int + pick(2) }

// maker makes a program of which the heads are made.
type maker struct {
	pick  Pick
	heads []api.Proc
}

// of picks one of several.
func of[T any](pick Pick, l ...T) T { return l[pick(len(l))] }

// proc makes the procedure of a number.
func (m maker) proc(i int) api.Proc {
	a := author{maker: m, number: i}
	p := m.heads[i]
	p.Params = append([]api.Param(nil), p.Params...)
	for _, x := range p.Params {
		a.known = append(a.known, variable{Var: api.Var{Name: x.Name, Type: x.Type}})
	}
	for range m.pick(4) {
		p.Body = append(p.Body, a.declare()...)
	}
	p.Body = append(p.Body, a.rows(2+m.pick(7))...)
	if p.Type != api.None {
		p.Body = append(p.Body, a.ending(p.Type))
	}
	return p
}
