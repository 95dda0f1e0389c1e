package session

import (
	"parallax/align"
	"parallax/api"
	"parallax/calls"
	"parallax/num"
)

// answers stands in the place of a same's number in an entry of a report.
const answers = -1

// parting is where the events of the two whole runs part, or -1.
func (o *opened) parting() int { return align.Parting(o.both[left].all(), o.both[right].all()) }

func (o *opened) diverge() []string {
	k := o.parting()
	if k < 0 {
		return []string{none}
	}
	return []string{num.Join("event", num.Text(int64(k)))}
}

// agree takes each side to where the events end that both have.
func (o *opened) agree() []string {
	k := o.parting()
	var lines []string
	for _, x := range o.both {
		p := x.End()
		if k >= 0 {
			p, _ = x.First(k) // there are so many on each side
		}
		lines = append(lines, x.goTo(p)...)
	}
	return lines
}

func (o *opened) resync() []string {
	a, b := o.both[left].all(), o.both[right].all()
	pairs, cut := align.Match(a, b, o.limit)
	lines := []string{summed("pairs", len(pairs), cut)}
	regions, _ := align.Regions(len(a), len(b), pairs) // they are a matching
	for _, r := range regions {
		lines = append(lines, "left "+span(r.FromA, r.ToA)+", right "+span(r.FromB, r.ToB))
	}
	return lines
}

func span(from, to int) string {
	return num.Join(num.Text(int64(from)), "to", num.Text(int64(to)))
}

// summed tells how many there are of what was found.
func summed(what string, n int, cut bool) string {
	line := num.Join(what, num.Text(int64(n)))
	if cut {
		line += ", truncated"
	}
	return line
}

func (o *opened) report() []string {
	found, cut, e := calls.Report(o.both[left].build, o.both[right].build, o.file, o.input, o.fuel, o.limit)
	if e != api.OK {
		return failed(e)
	}
	var lines []string
	for _, x := range found {
		lines = append(lines, entry(x))
	}
	return append(lines, summed("entries", len(found), cut))
}

func entry(x calls.Entry) string {
	what := "answer"
	if x.Same != answers {
		what = num.Join("same", num.Text(int64(x.Same)))
	}
	return num.Join("left", num.Text(int64(x.A)), "right", num.Text(int64(x.B)), what+":", numbers(x.ValA), "and", numbers(x.ValB))
}

func numbers(l []int64) string {
	var words []string
	for _, n := range l {
		words = append(words, num.Text(n))
	}
	return num.Join(words...)
}
