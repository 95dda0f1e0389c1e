package align_test

import (
	"math"
	"math/rand/v2"
	"slices"
	"testing"

	"parallax/align"
	"parallax/api"
	"parallax/fold"
	"parallax/sample"
	"parallax/syntax"
)

// someRow is a row of up to so many events, of few kinds.
func someRow(r *rand.Rand, most, kinds int) []api.Event {
	var l []api.Event
	for range r.IntN(most + 1) {
		k := r.IntN(kinds)
		l = append(l, api.Event{Kind: 1 + k%2, N: int64(k / 2)})
	}
	return l
}

// like is a row that has much of another one.
func like(r *rand.Rand, a []api.Event) []api.Event {
	b := slices.Clone(a)
	for range r.IntN(6) {
		i := r.IntN(len(b) + 1)
		switch {
		case r.IntN(3) == 0:
			b = slices.Insert(b, i, someRow(r, 3, 6)...)
		case i < len(b):
			b = slices.Delete(b, i, min(len(b), i+r.IntN(3)))
		}
	}
	return b
}

// someMatching is any matching of two rows.
func someMatching(r *rand.Rand, a, b []api.Event) []align.Pair {
	var l []align.Pair
	i, j := 0, 0
	for i < len(a) && j < len(b) {
		switch {
		case a[i] == b[j] && r.IntN(4) > 0:
			l = append(l, align.Pair{A: i, B: j})
			i, j = i+1, j+1
		case r.IntN(2) == 0:
			i++
		default:
			j++
		}
	}
	return l
}

func TestLeastOfTheGreatest(t *testing.T) { // P15.2, P15.6, P15.7, W4: against all matchings of short rows
	r := rand.New(rand.NewPCG(15, 2))
	sizes := map[int]int{}
	for range 6000 {
		kinds := 1 + r.IntN(5)
		a, b := someRow(r, 7, kinds), someRow(r, 7, kinds)
		l, cut := align.Match(a, b, 49)
		if want := bestOfAll(a, b); cut || !slices.Equal(l, want) {
			t.Fatalf("%v and %v: %v, %v; want %v", a, b, l, cut, want)
		}
		if turned, _ := align.Match(b, a, 49); len(turned) != len(l) {
			t.Fatalf("%v and %v: %v, turned round %v", a, b, l, turned)
		}
		sizes[len(l)]++
	}
	for size := range 5 {
		if sizes[size] < 100 {
			t.Errorf("matchings of the size %d: %d", size, sizes[size])
		}
	}
}

func TestAllShortRows(t *testing.T) { // P15.2, P15.6: each two rows of up to four events of two kinds
	var rows [][]api.Event
	for n := range 5 {
		for bits := range 1 << n {
			var l []api.Event
			for k := range n {
				l = append(l, api.Event{Kind: api.EvPrint, N: int64(bits >> k & 1)})
			}
			rows = append(rows, l)
		}
	}
	for _, a := range rows {
		for _, b := range rows {
			if l, cut := align.Match(a, b, 16); cut || !slices.Equal(l, bestOfAll(a, b)) {
				t.Fatalf("%v and %v: %v, %v; want %v", a, b, l, cut, bestOfAll(a, b))
			}
		}
	}
}

// follows asks what follows of two rows.
func follows(t *testing.T, a, b []api.Event, limit int) bool {
	t.Helper()
	l, cut := align.Match(a, b, limit)
	again, _ := align.Match(a, b, limit)
	if !align.Fits(a, b, l) || !slices.Equal(l, again) { // P15.6
		t.Fatalf("%v and %v: %v, then %v", a, b, l, again)
	}
	k := align.Parting(a, b)
	if k < 0 {
		k = len(a)
	}
	for i := range k { // P15.6
		if i >= len(l) || l[i] != (align.Pair{A: i, B: i}) {
			t.Fatalf("%v and %v part at %d: %v", a, b, k, l)
		}
	}
	if cut != ((len(a)-k)*(len(b)-k) > max(limit, 0)) || cut && len(l) != k || !cut && len(l) != greatest(a, b) { // P15.2, P15.6
		t.Fatalf("%v and %v by %d: %v, %v", a, b, limit, l, cut)
	}
	turned, turnedCut := align.Match(b, a, limit)
	if len(turned) != len(l) || turnedCut != cut { // P15.7
		t.Fatalf("%v and %v by %d: %v, turned round %v", a, b, limit, l, turned)
	}
	if cut {
		return true
	}
	for _, e := range []api.Event{{Kind: api.EvEnd}, {Kind: api.EvPrint}} { // P15.8
		more, _ := align.Match(append(slices.Clip(a), e), append(slices.Clip(b), e), math.MaxInt)
		if len(more) < len(l) {
			t.Fatalf("%v and %v: %v, with %v more %v", a, b, l, e, more)
		}
	}
	return false
}

func TestFollows(t *testing.T) { // P15.2, P15.6, P15.7, P15.8
	r := rand.New(rand.NewPCG(15, 6))
	cut := 0
	for range 3000 {
		a := someRow(r, 40, 1+r.IntN(30))
		b := like(r, a)
		if r.IntN(4) == 0 {
			b = someRow(r, 40, 12)
		}
		k := align.Parting(a, b)
		limit := []int{math.MaxInt, -1, 0, r.IntN(200), (len(a) - k) * (len(b) - k), (len(a)-k)*(len(b)-k) - 1}[r.IntN(6)]
		if follows(t, a, b, limit) {
			cut++
		}
	}
	if cut < 300 || cut > 2700 {
		t.Errorf("%d are truncated", cut)
	}
}

// covers asks that regions and pairs together are all indices, each once (P15.9), and hunks and lines against the second reading.
func covers(t *testing.T, a, b []api.Event, l []align.Pair, c int) []align.Region {
	t.Helper()
	n, m := len(a), len(b)
	regions, e := align.Regions(n, m, l)
	if e != api.OK {
		t.Fatalf("%d, %d, %v: %d", n, m, l, e)
	}
	inA, inB := make([]int, n), make([]int, m)
	for _, p := range l {
		inA[p.A]++
		inB[p.B]++
	}
	for k, x := range regions {
		for i := x.FromA; i < x.ToA; i++ {
			inA[i]++
		}
		for j := x.FromB; j < x.ToB; j++ {
			inB[j]++
		}
		if x.FromA > x.ToA || x.FromB > x.ToB || x.FromA == x.ToA && x.FromB == x.ToB || k > 0 && (x.FromA <= regions[k-1].ToA || x.FromB <= regions[k-1].ToB) {
			t.Fatalf("%d, %d, %v: %v", n, m, l, regions)
		}
	}
	for _, times := range append(inA, inB...) {
		if times != 1 {
			t.Fatalf("%d, %d, %v: %v", n, m, l, regions)
		}
	}
	if want := hunksOf(n, m, l, 0); !slices.Equal(regions, want) {
		t.Fatalf("%d, %d, %v: %v, want %v", n, m, l, regions, want)
	}
	hunks, e := align.Hunks(n, m, l, c)
	if want := hunksOf(n, m, l, c); e != api.OK || !slices.Equal(hunks, want) {
		t.Fatalf("%d, %d, %v, c %d: %v, %d, want %v", n, m, l, c, hunks, e, want)
	}
	return hunks
}

func TestRegionsAndHunks(t *testing.T) { // P15.4, P15.9 against the second reading
	r := rand.New(rand.NewPCG(15, 9))
	several, one := 0, 0
	for range 6000 {
		a := someRow(r, 30, 1+r.IntN(8))
		b := like(r, a)
		l := someMatching(r, a, b)
		switch hunks := covers(t, a, b, l, r.IntN(6)); len(hunks) {
		case 0:
		case 1:
			one++
		default:
			several++
		}
	}
	if several < 1000 || one < 500 {
		t.Errorf("one hunk: %d, several: %d", one, several)
	}
}

func TestLinesAlike(t *testing.T) { // P15.5 against the second reading
	r := rand.New(rand.NewPCG(15, 5))
	for range 6000 {
		a := someRow(r, 20, 1+r.IntN(12))
		b := like(r, a)
		l := someMatching(r, a, b)
		x := align.Region{FromA: r.IntN(len(a) + 1), FromB: r.IntN(len(b) + 1)}
		x.ToA, x.ToB = x.FromA+r.IntN(len(a)-x.FromA+1), x.FromB+r.IntN(len(b)-x.FromB+1)
		if r.IntN(3) == 0 {
			x = align.Region{ToA: len(a), ToB: len(b)}
		}
		got, e := align.Lines(a, b, l, x)
		if want := linesOf(a, b, l, x); e != api.OK || !slices.Equal(got, want) {
			t.Fatalf("%v and %v, %v, %v: %q, %d, want %q", a, b, l, x, got, e, want)
		}
	}
}

func TestRunsOfPrograms(t *testing.T) { // W4: where what two programs do parts, and how it is matched
	r := rand.New(rand.NewPCG(15, 4))
	parted := 0
	for range 300 {
		p, q := sample.Prog(r.IntN), sample.Prog(r.IntN)
		if r.IntN(2) == 0 {
			q = p
		}
		input := []int64{int64(r.IntN(5)), int64(r.IntN(5))}
		left, e := fold.Run(p, input, 200)
		right, f := fold.Run(q, input, 100+r.IntN(200))
		if e != api.OK || f != api.OK {
			t.Fatal(e, f)
		}
		k := align.Parting(left.Events, right.Events)
		if k >= 0 {
			parted++
			if !slices.Equal(left.Events[:k], right.Events[:k]) || len(left.Events) > k && len(right.Events) > k && left.Events[k] == right.Events[k] {
				x, _ := syntax.Print(p)
				t.Fatalf("%s: %d", x, k)
			}
		} else if !slices.Equal(left.Events, right.Events) {
			t.Fatal(left.Events, right.Events)
		}
		follows(t, left.Events, right.Events, 20000)
		l, _ := align.Match(left.Events, right.Events, 20000)
		covers(t, left.Events, right.Events, l, 3)
	}
	if parted < 100 || parted > 290 {
		t.Errorf("%d part", parted)
	}
}

func TestLongRows(t *testing.T) { // P15.1, P15.2 of rows of which all pairs of indices would be too many
	n := 1 << 20
	a := make([]api.Event, n)
	for i := range a {
		a[i] = api.Event{Kind: api.EvPrint, N: int64(i)}
	}
	b := slices.Clone(a)
	if k := align.Parting(a, b); k != -1 {
		t.Errorf("they part at %d", k)
	}
	if l, cut := align.Match(a, b, 0); cut || len(l) != n || l[n-1] != (align.Pair{A: n - 1, B: n - 1}) {
		t.Errorf("%d pairs, %v", len(l), cut)
	}
	if l, cut := align.Match(a, b[1:], n); !cut || len(l) != 0 {
		t.Errorf("%d pairs, %v", len(l), cut)
	}
	if l, cut := align.Match(a, b[:n-5], 0); cut || len(l) != n-5 {
		t.Errorf("%d pairs, %v", len(l), cut)
	}
	b[n-1000].N = -1
	if l, cut := align.Match(a, b[:n-1], 999*1000); cut || len(l) != n-2 {
		t.Errorf("%d pairs, %v", len(l), cut)
	}
	if l, cut := align.Match(a, b[:n-1], 999*1000-1); !cut || len(l) != n-1000 {
		t.Errorf("%d pairs, %v", len(l), cut)
	}
}

func FuzzAlign(f *testing.F) { // P1, P15.1 to P15.9
	f.Add([]byte("abcabba"), []byte("cbabac"), 100, 1, 0, 7, 0, 6)
	f.Add([]byte("abc"), []byte("bc"), 5, 0, 0, 1, 0, 0)
	f.Fuzz(func(t *testing.T, x, y []byte, limit, c, fromA, toA, fromB, toB int) {
		a, b := row(string(x[:min(len(x), 100)])), row(string(y[:min(len(y), 100)]))
		follows(t, a, b, limit)
		l, _ := align.Match(a, b, limit)
		covers(t, a, b, l, max(c, 0)%200)
		align.Regions(c, limit, l)
		align.Hunks(fromA, toA, l, c)
		z := align.Region{FromA: fromA, ToA: toA, FromB: fromB, ToB: toB}
		if lines, e := align.Lines(a, b, l, z); e == api.OK && !slices.Equal(lines, linesOf(a, b, l, z)) {
			t.Fatalf("%v and %v, %v: %q", a, b, z, lines)
		}
		var odd []align.Pair // any pairs at all
		for i := range min(len(x), len(y)) {
			odd = append(odd, align.Pair{A: int(x[i]%16) - 1, B: int(y[i]%16) - 1})
		}
		if e := func() api.Errno { _, e := align.Lines(a, b, odd, z); return e }(); !align.Fits(a, b, odd) && e != api.ErrPair {
			t.Fatalf("%v: %d", odd, e)
		}
	})
}
