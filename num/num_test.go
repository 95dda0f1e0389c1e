package num_test

import (
	"math"
	"math/big"
	"math/rand/v2"
	"slices"
	"strconv"
	"strings"
	"testing"

	"parallax/api"
	"parallax/num"
)

// edges are the numbers at which reckoning with 64 bits goes wrong first.
func edges() []int64 {
	l := []int64{0, 1, -1, 2, -2, 3, -3, 7, -7, 9, 10, -10, 99, 100, math.MinInt64, math.MinInt64 + 1, math.MaxInt64, math.MaxInt64 - 1}
	for _, k := range []int{31, 32, 33, 61, 62} {
		l = append(l, 1<<k, -1<<k, 1<<k-1, -1<<k+1)
	}
	return l
}

// numbers are the edges and some others, the same in each run.
func numbers() []int64 {
	l := edges()
	r := rand.New(rand.NewPCG(1, 2))
	for range 60 {
		l = append(l, int64(r.Uint64())>>r.IntN(64))
	}
	return l
}

// anew is the one integer that differs from n by a multiple of 2^64.
func anew(n *big.Int) int64 {
	whole := new(big.Int).Lsh(big.NewInt(1), 64)
	half := new(big.Int).Lsh(big.NewInt(1), 63)
	m := new(big.Int).Add(n, half)
	m.Mod(m, whole)
	return m.Sub(m, half).Int64()
}

func TestSumsDifferencesProducts(t *testing.T) { // P1.1
	for _, a := range numbers() {
		x := big.NewInt(a)
		if got, want := num.Neg(a), anew(new(big.Int).Neg(x)); got != want {
			t.Errorf("Neg(%d) = %d, want %d", a, got, want)
		}
		for _, b := range numbers() {
			y := big.NewInt(b)
			if got, want := num.Add(a, b), anew(new(big.Int).Add(x, y)); got != want {
				t.Errorf("Add(%d, %d) = %d, want %d", a, b, got, want)
			}
			if got, want := num.Sub(a, b), anew(new(big.Int).Sub(x, y)); got != want {
				t.Errorf("Sub(%d, %d) = %d, want %d", a, b, got, want)
			}
			if got, want := num.Mul(a, b), anew(new(big.Int).Mul(x, y)); got != want {
				t.Errorf("Mul(%d, %d) = %d, want %d", a, b, got, want)
			}
		}
	}
}

func TestArithmeticByHand(t *testing.T) { // P1.1
	for _, c := range []struct {
		name      string
		got, want int64
	}{
		{"Add", num.Add(2, 3), 5},
		{"Add at the upper end", num.Add(math.MaxInt64, 1), math.MinInt64},
		{"Add at the lower end", num.Add(math.MinInt64, -1), math.MaxInt64},
		{"Sub", num.Sub(2, 3), -1},
		{"Sub at the lower end", num.Sub(math.MinInt64, 1), math.MaxInt64},
		{"Sub of the least one", num.Sub(0, math.MinInt64), math.MinInt64},
		{"Mul", num.Mul(-6, 7), -42},
		{"Mul, the chapter's example", num.Mul(1<<62, 2), math.MinInt64},
		{"Mul of the least one", num.Mul(math.MinInt64, -1), math.MinInt64},
		{"Neg", num.Neg(5), -5},
		{"Neg of 0", num.Neg(0), 0},
		{"Neg of the least one", num.Neg(math.MinInt64), math.MinInt64},
	} {
		if c.got != c.want {
			t.Errorf("%s: %d, want %d", c.name, c.got, c.want)
		}
	}
}

func TestDivMod(t *testing.T) { // P1.1
	for _, a := range numbers() {
		for _, b := range numbers() {
			q, e := num.Div(a, b)
			r, f := num.Mod(a, b)
			if b == 0 {
				if q != 0 || r != 0 || e != api.ErrZero || f != api.ErrZero {
					t.Errorf("Div, Mod(%d, 0) = %d %d, %d %d", a, q, e, r, f)
				}
				continue
			}
			x, y := new(big.Int).QuoRem(big.NewInt(a), big.NewInt(b), new(big.Int))
			if e != api.OK || f != api.OK || q != anew(x) || r != anew(y) {
				t.Errorf("Div, Mod(%d, %d) = %d %d, %d %d, want %d, %d", a, b, q, e, r, f, anew(x), anew(y))
			}
		}
	}
}

func TestDivModByHand(t *testing.T) { // P1.1
	for _, c := range []struct{ a, b, q, r int64 }{
		{7, 2, 3, 1},
		{-7, 2, -3, -1},
		{7, -2, -3, 1},
		{-7, -2, 3, -1},
		{6, 3, 2, 0},
		{1, 2, 0, 1},
		{-1, 2, 0, -1},
		{0, 5, 0, 0},
		{math.MinInt64, -1, math.MinInt64, 0},
		{math.MinInt64, 1, math.MinInt64, 0},
		{math.MaxInt64, -1, -math.MaxInt64, 0},
		{5, math.MinInt64, 0, 5},
		{math.MinInt64, math.MinInt64, 1, 0},
		{math.MinInt64, math.MaxInt64, -1, -1},
	} {
		q, e := num.Div(c.a, c.b)
		r, f := num.Mod(c.a, c.b)
		if q != c.q || r != c.r || e != api.OK || f != api.OK {
			t.Errorf("Div, Mod(%d, %d) = %d %d, %d %d, want %d, %d", c.a, c.b, q, e, r, f, c.q, c.r)
		}
	}
}

func TestOrderPlaysNoPart(t *testing.T) { // P1.4
	for _, a := range numbers() {
		for _, b := range numbers() {
			if num.Add(a, b) != num.Add(b, a) || num.Mul(a, b) != num.Mul(b, a) {
				t.Errorf("%d and %d in the other order", a, b)
			}
			for _, c := range edges() {
				if num.Add(num.Add(a, b), c) != num.Add(a, num.Add(b, c)) {
					t.Errorf("the sum of %d, %d, %d", a, b, c)
				}
				if num.Mul(num.Mul(a, b), c) != num.Mul(a, num.Mul(b, c)) {
					t.Errorf("the product of %d, %d, %d", a, b, c)
				}
				if num.Mul(a, num.Add(b, c)) != num.Add(num.Mul(a, b), num.Mul(a, c)) {
					t.Errorf("%d times the sum of %d, %d", a, b, c)
				}
			}
		}
	}
}

func TestQuotientDivisorRest(t *testing.T) { // P1.5
	for _, a := range numbers() {
		for _, b := range numbers() {
			if b == 0 {
				continue
			}
			q, _ := num.Div(a, b)
			r, _ := num.Mod(a, b)
			if num.Add(num.Mul(q, b), r) != a {
				t.Errorf("%d by %d: %d, rest %d", a, b, q, r)
			}
			if new(big.Int).Abs(big.NewInt(r)).Cmp(new(big.Int).Abs(big.NewInt(b))) >= 0 {
				t.Errorf("%d by %d: rest %d is not nearer to 0", a, b, r)
			}
			if r != 0 && (r < 0) != (a < 0) {
				t.Errorf("%d by %d: rest %d has another sign", a, b, r)
			}
		}
	}
}

func TestText(t *testing.T) { // P1.2
	for n, want := range map[int64]string{
		0:              "0",
		7:              "7",
		-7:             "-7",
		10:             "10",
		-100:           "-100",
		1234567890:     "1234567890",
		math.MaxInt64:  "9223372036854775807",
		math.MinInt64:  "-9223372036854775808",
		-math.MaxInt64: "-9223372036854775807",
	} {
		if got := num.Text(n); got != want {
			t.Errorf("Text(%d) = %q", n, got)
		}
		if got, e := num.Parse(want); got != n || e != api.OK {
			t.Errorf("Parse(%q) = %d, %d", want, got, e)
		}
	}
}

func TestParseOfNoNumber(t *testing.T) { // P1.2
	for _, s := range []string{
		"", "-", "--1", "-0", "-00", "00", "007", "-007", "01", "+1", "+0", "+", " ", " 1", "1 ", "1 2", "1\n", "\n", "\x00", "1\x00",
		"1.0", "1e3", "0x1", "1_000", "1,000", "a", "1a", "a1", "1-", "1-1", "٣", "１", "\xff", "-a", "- 1",
		"9223372036854775808", "-9223372036854775809", "9223372036854775810", "10000000000000000000", "18446744073709551615",
		"18446744073709551616", "18446744073709551617", "-18446744073709551616", "92233720368547758070", "99999999999999999999",
		"340282366920938463463374607431768211456", strings.Repeat("9", 1000), "-" + strings.Repeat("1", 1000), strings.Repeat("0", 1000),
	} {
		if n, e := num.Parse(s); n != 0 || e != api.ErrNumber {
			t.Errorf("Parse(%q) = %d, %d", s, n, e)
		}
	}
}

func TestTextsThereAndBack(t *testing.T) { // P1.6
	for _, n := range numbers() {
		s := num.Text(n)
		if m, e := num.Parse(s); m != n || e != api.OK {
			t.Errorf("Parse(Text(%d)) = %d, %d", n, m, e)
		}
	}
}

// TestParseOfShortTexts goes through all texts of a few bytes: each is a number's text just if that number's text is it.
func TestParseOfShortTexts(t *testing.T) { // P1.2, P1.6
	bytes := "-+ 019a/:"
	texts := []string{""}
	for from, size := 0, 0; size < 4; size++ {
		to := len(texts)
		for ; from < to; from++ {
			for _, c := range bytes {
				texts = append(texts, texts[from]+string(c))
			}
		}
	}
	for _, s := range texts {
		want, err := strconv.ParseInt(s, 10, 64)
		right := err == nil && strconv.FormatInt(want, 10) == s
		n, e := num.Parse(s)
		if right && (n != want || e != api.OK) || !right && (n != 0 || e != api.ErrNumber) {
			t.Errorf("Parse(%q) = %d, %d", s, n, e)
		}
	}
}

// TestParseAboutTheEnds goes through the numbers about both ends, digit by digit.
func TestParseAboutTheEnds(t *testing.T) { // P1.2
	for _, end := range []string{"9223372036854775808", "-9223372036854775808", "18446744073709551616", "922337203685477580", "92233720368547758079"} {
		middle, _ := new(big.Int).SetString(end, 10)
		for d := int64(-30); d <= 30; d++ {
			x := new(big.Int).Add(middle, big.NewInt(d))
			n, e := num.Parse(x.String())
			if x.IsInt64() && (n != x.Int64() || e != api.OK) || !x.IsInt64() && (n != 0 || e != api.ErrNumber) {
				t.Errorf("Parse(%s) = %d, %d", x, n, e)
			}
		}
	}
}

func TestWords(t *testing.T) { // P1.3
	for _, c := range []struct {
		s    string
		want []string
	}{
		{"", nil},
		{" ", []string{"", ""}},
		{"  ", []string{"", "", ""}},
		{"a", []string{"a"}},
		{"a b", []string{"a", "b"}},
		{"a  b", []string{"a", "", "b"}},
		{" a", []string{"", "a"}},
		{"a ", []string{"a", ""}},
		{"ab cd ef", []string{"ab", "cd", "ef"}},
		{"a\tb\nc d", []string{"a\tb\nc", "d"}},
		{"\xff \x00", []string{"\xff", "\x00"}},
	} {
		if got := num.Words(c.s); !slices.Equal(got, c.want) {
			t.Errorf("Words(%q) = %q, want %q", c.s, got, c.want)
		}
	}
}

func TestJoin(t *testing.T) { // P1.3
	for _, c := range []struct {
		l    []string
		want string
	}{
		{nil, ""},
		{[]string{}, ""},
		{[]string{""}, ""},
		{[]string{"a"}, "a"},
		{[]string{"a", "b"}, "a b"},
		{[]string{"", ""}, " "},
		{[]string{"", "a", ""}, " a "},
		{[]string{"a b", "c"}, "a b c"},
		{[]string{"\xff", "\n", "\x00"}, "\xff \n \x00"},
	} {
		if got := num.Join(c.l...); got != c.want {
			t.Errorf("Join(%q) = %q, want %q", c.l, got, c.want)
		}
	}
}

func TestWordsOfAJoin(t *testing.T) { // P1.7
	r := rand.New(rand.NewPCG(3, 4))
	parts := []string{"", "a", "bc", "\n", "-1", "\xfe\xff", "é"}
	for range 2000 {
		l := make([]string, 1+r.IntN(6))
		for i := range l {
			l[i] = parts[r.IntN(len(parts))]
		}
		if len(l) == 1 && l[0] == "" {
			continue // the empty text has no words, not one that is empty
		}
		given := slices.Clone(l)
		got := num.Words(num.Join(l...))
		if !slices.Equal(got, l) {
			t.Errorf("the words of the join of %q are %q", l, got)
		}
		if !slices.Equal(l, given) {
			t.Errorf("Join changed %q to %q", given, l)
		}
	}
}

func TestWordsAreNewMemory(t *testing.T) { // rule 3
	s := "a b"
	l := num.Words(s)
	l[0] = "z"
	if m := num.Words(s); m[0] != "a" {
		t.Errorf("Words(%q) = %q behind a change of an earlier answer", s, m)
	}
}

// FuzzTexts: no text is out of bounds for Parse and Words, and both are told apart by what they write again.
func FuzzTexts(f *testing.F) { // P1, P1.6, P1.7
	for _, s := range []string{"", "-", "-0", "12", "9223372036854775808", " a  b ", "\xff\x00", strings.Repeat(" ", 1<<16), strings.Repeat("1", 1<<16)} {
		f.Add(s)
	}
	f.Fuzz(func(t *testing.T, s string) {
		n, e := num.Parse(s)
		if e == api.OK && num.Text(n) != s || e != api.OK && (e != api.ErrNumber || n != 0) {
			t.Errorf("Parse(%q) = %d, %d", s, n, e)
		}
		l := num.Words(s)
		if num.Join(l...) != s {
			t.Errorf("Words(%q) = %q", s, l)
		}
		for _, w := range l {
			if strings.Contains(w, " ") {
				t.Errorf("Words(%q) = %q", s, l)
			}
		}
	})
}
