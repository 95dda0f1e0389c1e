package code_test

import (
	"math/rand/v2"
	"reflect"
	"slices"
	"strings"
	"testing"

	"parallax/api"
	"parallax/code"
	"parallax/sample"
)

// made are codes, the same ones for a seed in each run: sound ones that are bent so often.
func made(seed uint64, bent int) ([]api.Code, int, *rand.Rand) {
	r := rand.New(rand.NewPCG(seed, 18))
	l, main := sample.Codes(r.IntN)
	for range bent {
		l = sample.BentCodes(r.IntN, l)
	}
	return l, main, r
}

// text is codes', for what is told of a fault.
func text(l []api.Code) string {
	var b strings.Builder
	for _, c := range l {
		b.WriteString(code.Print(c) + "\n")
	}
	return b.String()
}

// asks holds what is told of codes against the second reading, and against what must follow.
func asks(t *testing.T, l []api.Code, main int) bool {
	t.Helper()
	before := sample.CopyCodes(l)
	sound := isSound(l, main)
	if got := code.Sound(l, main); got != sound {
		t.Fatalf("%s Sound(%v, %d) = %v", text(l), l, main, got)
	}
	for k := -1; k <= len(l); k++ {
		got, ok := code.Heights(l, k)
		if want, fits := levels(l, k); ok != fits || !slices.Equal(got, want) {
			t.Fatalf("%s Heights(%v, %d) = %v, %v; want %v, %v", text(l), l, k, got, ok, want, fits)
		}
	}
	for _, c := range l {
		printed(t, c)
	}
	if !reflect.DeepEqual(sample.CopyCodes(l), before) {
		t.Fatalf("%v was changed", before)
	}
	return sound
}

// printed asks for the lines of a code.
func printed(t *testing.T, c api.Code) {
	t.Helper()
	rows := strings.Split(code.Print(c), "\n")
	if len(rows) != len(c.Ins)+1 || rows[len(c.Ins)] != "" {
		t.Fatalf("%d rows of %v", len(rows), c)
	}
	for place, i := range c.Ins {
		line, ok := lineOf(i)
		got, e := code.Text(i)
		if got != line || (e == api.OK) != ok || e != api.OK && e != api.ErrText {
			t.Fatalf("Text(%v) = %q, %d; want %q", i, got, e, line)
		}
		if back, e := code.Parse(line); ok && (back != i || e != api.OK) { // P8.3
			t.Fatalf("Parse(%q) = %v, %d; want %v", line, back, e, i)
		}
		if !ok {
			line = "?"
		}
		if _, row, _ := strings.Cut(rows[place], " "); row != line {
			t.Fatalf("row %q; want %q", rows[place], line)
		}
	}
}

func TestMade(t *testing.T) { // P8.1 to P8.3 against a second reading
	sound := 0
	for seed := range uint64(6000) {
		l, main, _ := made(seed, int(seed%4))
		if asks(t, l, main) {
			sound++
		}
	}
	if sound < 2000 || sound > 4500 {
		t.Errorf("%d are sound", sound)
	}
}

func TestOneMore(t *testing.T) { // P8.4
	stay := 0
	for seed := range uint64(2000) {
		l, main, r := made(seed, 0)
		more, _ := sample.Codes(r.IntN)
		for _, c := range more { // what it calls may be another one now
			all := append(sample.CopyCodes(l), c)
			_, among := code.Heights(all, len(l))
			if got := code.Sound(all, main); got != among {
				t.Fatalf("%s sound with one more: %v, that one: %v", text(all), got, among)
			}
			if among {
				stay++
			}
		}
	}
	if stay < 1000 {
		t.Errorf("%d stay sound", stay)
	}
}

func TestMadeUnreached(t *testing.T) { // P8.5
	changed := 0
	for seed := range uint64(2000) {
		l, main, r := made(seed, 0)
		for k := range l {
			heights, _ := code.Heights(l, k)
			for place, h := range heights {
				if h >= 0 {
					continue
				}
				changed++
				l[k].Ins[place] = l[k].Ins[r.IntN(len(heights))]
				if again, ok := code.Heights(l, k); !ok || !slices.Equal(again, heights) {
					t.Fatalf("%s changed at %d: %v, and then %v, %v", text(l), place, heights, again, ok)
				}
			}
		}
		if !code.Sound(l, main) {
			t.Fatalf("%s is not sound", text(l))
		}
	}
	if changed < 1000 {
		t.Errorf("%d were changed", changed)
	}
}

func TestHeightsAreNew(t *testing.T) { // rule 3
	l := []api.Code{{Ins: ins(t, "push 1, print, leave 0")}}
	first, _ := code.Heights(l, 0)
	first[1] = 9
	if again, _ := code.Heights(l, 0); !slices.Equal(again, []int{0, 1, 0}) {
		t.Errorf("%v", again)
	}
}

// FuzzLines asks whether what Parse takes is the line of what it answers.
func FuzzLines(f *testing.F) {
	for _, x := range lines {
		f.Add(x.line, x.Op, x.N, x.M)
	}
	f.Add("push -0", 0, int64(1), int64(2))
	f.Fuzz(func(t *testing.T, s string, op int, n, m int64) {
		i, e := code.Parse(s)
		if line, ok := lineOf(i); e == api.OK && (!ok || line != s) || e != api.OK && (e != api.ErrText || i != (api.Ins{})) {
			t.Fatalf("Parse(%q) = %v, %d", s, i, e)
		}
		printed(t, api.Code{Ins: []api.Ins{{Op: op, N: n, M: m}, {Op: op, N: n}, {Op: op}}})
	})
}

func FuzzSound(f *testing.F) {
	for seed := range uint64(20) {
		f.Add(seed, int(seed%4))
	}
	f.Fuzz(func(t *testing.T, seed uint64, bent int) {
		l, main, _ := made(seed, min(max(bent, 0), 10))
		asks(t, l, main)
	})
}
