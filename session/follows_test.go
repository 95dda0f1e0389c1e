package session_test

import (
	"math/rand/v2"
	"slices"
	"strconv"
	"strings"
	"testing"

	"parallax/api"
	"parallax/fold"
	"parallax/session"
	"parallax/syntax"
)

func TestOpenAgain(t *testing.T) { // P18.1, by the second reading
	r := rand.New(rand.NewPCG(18, 1))
	var faults [5]int
	for range 1500 {
		x, progs := someSetup(t, r)
		if r.IntN(8) > 0 {
			x = wrongly(t, r, x, progs)
		}
		s, f := session.Open(x)
		if _, want := secondOpen(x); f != want || (s == nil) != (f.Code != api.OK) {
			t.Fatalf("%q\n%q\n%q\n%v %v, fuel %d, every %d, room %d: %v; want %v", x.Left, x.Right, x.Decl, x.PlainLeft, x.PlainRight, x.Fuel, x.Every, x.Room, f, want)
		}
		faults[f.Which]++
	}
	if slices.Min(faults[:]) < 60 {
		t.Errorf("%v", faults)
	}
}

func TestDoAgain(t *testing.T) { // P18.2, by the second reading; P18.3, P18.4
	r := rand.New(rand.NewPCG(18, 2))
	answers := map[string]int{} // how often a command was answered by no error, and each error
	for range 500 {
		x, progs := someSetup(t, r)
		s, f := session.Open(x)
		want, _ := secondOpen(x)
		if f.Code != api.OK {
			continue
		}
		y := x
		y.Every, y.Room = 1+r.IntN(40), 1+r.IntN(40)
		other := opened(t, y)
		var lines []string
		for range 60 {
			line := progs.someLine(r)
			lines = append(lines, line)
			got, expected := s.Do(line), want.do(line)
			if !slices.Equal(got, expected) {
				t.Fatalf("%s\n%s\n%s\n%+v\n%q: %q; want %q", x.Left, x.Right, x.Decl, x, lines, got, expected)
			}
			if again := other.Do(line); !slices.Equal(got, again) {
				t.Fatalf("%q, %+v, with other copies: %q; want %q", lines, x, again, got)
			}
			if strings.HasPrefix(got[0], "error") {
				answers[got[0]]++
			} else {
				answers[strings.Split(line, " ")[0]]++
			}
		}
	}
	for _, word := range strings.Split("where,step,back,goto,next,rnext,finish,rfinish,run,rrun,diverge,agree,resync,stack,list,eval,events,break,watch,clear,report,error 1,error 20,error 30,error 40,error 41,error 80,error 81,error 101,error 102", ",") {
		if answers[word] < 20 {
			t.Errorf("%s: %d", word, answers[word])
		}
	}
}

// both are where both sides are.
func both(s *session.Session) string { return strings.Join(s.Do("where both"), " / ") }

func TestBuildsPlayNoPart(t *testing.T) { // P18.3: but for what can not be told
	r := rand.New(rand.NewPCG(18, 3))
	compared := 0
	for range 300 {
		x, progs := someSetup(t, r)
		x.PlainLeft, x.PlainRight = false, false
		lean, f := session.Open(x)
		if f.Code != api.OK {
			continue
		}
		x.PlainLeft, x.PlainRight = true, true
		plain := opened(t, x)
		for range 60 {
			line := progs.someLine(r)
			a, b := lean.Do(line), plain.Do(line)
			if strings.Join(a, "") == "error 102" && strings.Join(b, "") == "ok" {
				break // from here on they have other breaks
			}
			if len(a) != len(b) {
				t.Fatalf("%q: %q, %q", line, a, b)
			}
			for i := range a {
				if !tellsLess(a[i], b[i]) {
					t.Fatalf("%s\n%s\n%s\n%q: %q, plain %q", x.Left, x.Right, x.Decl, line, a[i], b[i])
				}
			}
			compared++
		}
	}
	if compared < 3000 {
		t.Errorf("%d lines", compared)
	}
}

// tellsLess tells whether an answer is another one, but for what can not be told.
func tellsLess(a, b string) bool {
	if a == b || a == "error 81" && !strings.HasPrefix(b, "error") {
		return true
	}
	for strings.Contains(a, "= ?") {
		k := strings.Index(a, "= ?")
		if len(b) < k+2 || a[:k+2] != b[:k+2] {
			return false
		}
		a, b = a[k+3:], b[k+2:]
		if at := strings.IndexByte(b, ','); at >= 0 {
			b = b[at:]
		} else {
			b = ""
		}
	}
	return a == b
}

func TestErrorsChangeNothing(t *testing.T) { // P18.4: what is answered later on, too
	r := rand.New(rand.NewPCG(18, 4))
	for range 200 {
		x, progs := someSetup(t, r)
		a, f := session.Open(x)
		if f.Code != api.OK {
			continue
		}
		b := opened(t, x)
		for range 60 {
			line := progs.someLine(r)
			before := both(a)
			got := a.Do(line)
			if strings.HasPrefix(got[0], "error") && len(got) == 1 {
				if after := both(a); after != before {
					t.Fatalf("%q: %q, from %s to %s", line, got, before, after)
				}
				continue
			}
			if want := b.Do(line); !slices.Equal(got, want) { // it was told none of those lines
				t.Fatalf("%q: %q, without the wrong ones %q", line, got, want)
			}
		}
	}
}

func TestAgreement(t *testing.T) { // P18.5, P18.6, P18.7, from anywhere
	r := rand.New(rand.NewPCG(18, 5))
	parted, alike := 0, 0
	for range 300 {
		x, progs := someSetup(t, r)
		s, f := session.Open(x)
		if f.Code != api.OK {
			continue
		}
		for range 8 {
			if line := progs.someLine(r); !strings.HasPrefix(line, "clear") {
				s.Do(line)
			}
		}
		nothing(t, s, r)
		a, b := eventsOf(t, x.Left, x), eventsOf(t, x.Right, x)
		k := 0
		for k < min(len(a), len(b)) && a[k] == b[k] {
			k++
		}
		if k == len(a) && k == len(b) {
			alike++
			does(t, s, "diverge", "none")
			for _, line := range s.Do("agree") {
				if !strings.HasSuffix(line, "over") {
					t.Fatalf("agree: %s", line)
				}
			}
			continue
		}
		parted++
		does(t, s, "diverge", "event "+strconv.Itoa(k))
		s.Do("agree")
		has(t, s, "left", k)
		has(t, s, "right", k)
	}
	if parted < 50 || alike < 50 {
		t.Errorf("%d part, %d do not", parted, alike)
	}
}

// has asks whether there are so many events, and fewer a position ahead; more there may be at the end alone, where a run may both print and end.
func has(t *testing.T, s *session.Session, side string, k int) {
	t.Helper()
	n, at := numberOfEvents(s, side), s.Do("where " + side)[0]
	if n < k || n > k && !strings.HasSuffix(at, "over") {
		t.Fatalf("%d events at %s; want %d", n, at, k)
	}
	if k == 0 {
		if !strings.HasPrefix(at, side+" 0 of") {
			t.Fatalf("no events: %s", at)
		}
		return
	}
	s.Do("back " + side + " 1")
	if n := numberOfEvents(s, side); n >= k {
		t.Fatalf("%d events at %s; want fewer than %d", n, s.Do("where "+side), k)
	}
}

func numberOfEvents(s *session.Session, side string) int {
	l := s.Do("events " + side)
	if l[0] == "none" {
		return 0
	}
	return len(l)
}

// nothing asks P18.6.
func nothing(t *testing.T, s *session.Session, r *rand.Rand) {
	t.Helper()
	for range 5 {
		before := both(s)
		n := strconv.Itoa(r.IntN(12))
		s.Do("step both " + n)
		room := !strings.Contains(both(s), "over")
		s.Do("back both " + n)
		if after := both(s); room && after != before {
			t.Fatalf("step and back by %s: from %s to %s", n, before, after)
		}
		before = both(s)
		s.Do("back both " + n)
		room = !strings.Contains(both(s), "begin")
		s.Do("step both " + n)
		if after := both(s); room && after != before {
			t.Fatalf("back and step by %s: from %s to %s", n, before, after)
		}
		if again := both(s); again != both(s) {
			t.Fatalf("where: %s, %s", again, both(s))
		}
	}
}

// eventsOf are those of a source's history.
func eventsOf(t *testing.T, source string, x session.Setup) []api.Event {
	t.Helper()
	p, _, e := syntax.Parse(source)
	if e != api.OK {
		t.Fatalf("Parse: %d", e)
	}
	h, e := fold.Run(p, x.Input, x.Fuel)
	if e != api.OK {
		t.Fatalf("Run: %d", e)
	}
	return h.Events
}
