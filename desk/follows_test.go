package desk_test

import (
	"math/rand/v2"
	"slices"
	"strings"
	"testing"

	"parallax/api"
	"parallax/desk"
)

func TestLinesAgain(t *testing.T) { // P19.1, W7, P19.6: by the second reading
	r := rand.New(rand.NewPCG(19, 1))
	answers := map[string]int{}
	for range 150 {
		d, want := desk.New(), &reading{}
		lines := script(r)
		for k, line := range lines {
			got, expected := d.Line(line), want.line(line)
			if !slices.Equal(got, expected) {
				t.Fatalf("%s\n%q; want %q", strings.Join(lines[:k+1], "\n"), got, expected)
			}
			word, _, _ := strings.Cut(line, " ")
			first, rest, _ := strings.Cut(got[0]+" ", " ")
			answers[word+": "+first]++
			answers[word+": "+first+" "+rest]++
		}
	}
	for _, x := range strings.Split("left: ok,right: ok,decl: ok,input: ok,fuel: ok,every: ok,room: ok,limit: ok,plain: ok,lean: ok,open: ok,open: fault,do: left,do: right,do: error,do: ok,do: event,do: none,do: pairs,do: entries,save: bytes,save: error,load: ok,load: error,load: error 61 ,reset: ok,left: error,: error,do: error 100 ,do: error 101 ,fuel: error,input: error,save: error 1 ,save: error 101 ", ",") {
		if answers[x] < 4 {
			t.Errorf("%s %d", x, answers[x])
		}
	}
}

func TestRunAgain(t *testing.T) { // P19.2, P19.3, P19.4
	r := rand.New(rand.NewPCG(19, 2))
	played := 0
	for range 100 {
		lines := script(r)
		for i, line := range lines {
			lines[i] = strings.ReplaceAll(line, "\n", "")
		}
		d := desk.New()
		var l []string
		var ends []int // how many answers there are behind each line
		for _, line := range lines {
			l = append(l, d.Line(line)...)
			ends = append(ends, len(l))
		}
		text := strings.Join(lines, "\n") + "\n"
		if lines[len(lines)-1] != "" && r.IntN(2) == 0 {
			text = strings.TrimSuffix(text, "\n")
		}
		if len(lines) > api.MaxLines {
			if got, e := desk.Run(text); got != "" || e != api.ErrLong {
				t.Fatalf("%d lines: %d, %d", len(lines), len(got), e)
			}
			continue
		}
		all, e := desk.Run(text)
		if want := strings.Join(append(slices.Clone(l), ""), "\n"); e != api.OK || all != want {
			t.Fatalf("%s\n%d, %q; want %q", text, e, all, want)
		}
		k := r.IntN(len(lines))
		first, e := desk.Run(strings.Join(lines[:k+1], "\n") + "\n")
		if want := strings.Join(append(slices.Clone(l[:ends[k]]), ""), "\n"); e != api.OK || first != want || !strings.HasPrefix(all, first) {
			t.Fatalf("%s\nthe first %d: %d, %q; want %q", text, k+1, e, first, want)
		}
		if k+2+len(lines) <= api.MaxLines {
			again, e := desk.Run(strings.Join(lines[:k+1], "\n") + "\nreset\n" + text)
			if e != api.OK || again != first+"ok\n"+all {
				t.Fatalf("%s\nbehind reset, %d lines ahead: %d, %q; want %q", text, k+1, e, again, all)
			}
			played++
		}
	}
	if played < 60 {
		t.Errorf("%d scripts", played)
	}
}

func TestErrorsChangeNothing(t *testing.T) { // P19.5: nor what is answered later on
	r := rand.New(rand.NewPCG(19, 3))
	left := 0
	for range 100 {
		a, b := desk.New(), desk.New()
		lines := script(r)
		for k, line := range lines {
			got := a.Line(line)
			if len(got) == 1 && strings.HasPrefix(got[0], "error ") {
				left++
				continue
			}
			if want := b.Line(line); !slices.Equal(got, want) { // it was told none of those lines
				t.Fatalf("%s\n%q; without those answered by an error %q", strings.Join(lines[:k+1], "\n"), got, want)
			}
		}
	}
	if left < 200 {
		t.Errorf("%d lines left out", left)
	}
}

func TestSavedIsTheHistory(t *testing.T) { // P19.6: whatever else was done
	r := rand.New(rand.NewPCG(19, 4))
	for range 40 {
		d, other := desk.New(), &reading{}
		for _, line := range script(r) {
			if got, want := d.Line("save both"), other.line("save both"); !slices.Equal(got, want) {
				t.Fatalf("%q\n%q; want %q", other.taken, got, want)
			}
			d.Line(line)
			if word, _, _ := strings.Cut(line, " "); !slices.Contains([]string{"do", "open", "save", "plain", "lean", "every", "room", "limit", "decl"}, word) {
				other.line(line) // what was left out plays no part
			}
		}
	}
}
