package lex_test

import (
	"math"
	"math/big"
	"math/rand/v2"
	"regexp"
	"slices"
	"strings"
	"testing"

	"parallax/api"
	"parallax/lex"
	"parallax/num"
)

func keyWords() []string {
	return strings.Fields("proc var if else while return print read assert int bool true false")
}

func signs() []string {
	return strings.Fields("( ) { } [ ] , ; = == != < <= && || ! + - * / %")
}

func end(at int) api.Token            { return api.Token{Kind: api.TEnd, At: at} }
func name(s string, at int) api.Token { return api.Token{Kind: api.TName, Text: s, At: at} }
func key(s string, at int) api.Token  { return api.Token{Kind: api.TKey, Text: s, At: at} }
func sign(s string, at int) api.Token { return api.Token{Kind: api.TSign, Text: s, At: at} }
func whole(n int64, at int) api.Token { return api.Token{Kind: api.TInt, Num: n, At: at} }

// scans asks that a source is read as these tokens.
func scans(t *testing.T, s string, want ...api.Token) {
	t.Helper()
	l, at, e := lex.Scan(s)
	if e != api.OK || at != 0 || !slices.Equal(l, want) {
		t.Errorf("Scan(%q) = %v, %d, %d, want %v", s, l, at, e, want)
	}
}

// fails asks that a source has this error, there.
func fails(t *testing.T, s string, at int, want api.Errno) {
	t.Helper()
	l, place, e := lex.Scan(s)
	if e != want || place != at || len(l) != 0 {
		t.Errorf("Scan(%.60q) = %d tokens, %d, %d, want %d, %d", s, len(l), place, e, at, want)
	}
}

func TestScan(t *testing.T) { // P2.1
	scans(t, "", end(0))
	scans(t, "x=1#y", name("x", 0), sign("=", 1), whole(1, 2), end(5))
	scans(t, "a", name("a", 0), end(1))
	scans(t, "Z_9z a__ A1", name("Z_9z", 0), name("a__", 5), name("A1", 9), end(11))
	scans(t, "proc main ( ) { print 1 ; }", key("proc", 0), name("main", 5), sign("(", 10), sign(")", 12), sign("{", 14),
		key("print", 16), whole(1, 22), sign(";", 24), sign("}", 26), end(27))
	scans(t, "a[0]=-x%2", name("a", 0), sign("[", 1), whole(0, 2), sign("]", 3), sign("=", 4), sign("-", 5), name("x", 6),
		sign("%", 7), whole(2, 8), end(9))
}

func TestScanKeyWords(t *testing.T) { // P2.1
	for _, k := range keyWords() {
		scans(t, k, key(k, 0), end(len(k)))
		for _, n := range []string{k + "x", k + "1", k + "_", "x" + k, strings.ToUpper(k), k[:len(k)-1] + "X"} {
			scans(t, n, name(n, 0), end(len(n)))
		}
		scans(t, k+"("+k, key(k, 0), sign("(", len(k)), key(k, len(k)+1), end(2*len(k)+1))
	}
}

func TestScanSigns(t *testing.T) { // P2.1
	for _, s := range signs() {
		scans(t, s, sign(s, 0), end(len(s)))
		scans(t, "a"+s+"b", name("a", 0), sign(s, 1), name("b", 1+len(s)), end(2+len(s)))
		scans(t, "1"+s+"2", whole(1, 0), sign(s, 1), whole(2, 1+len(s)), end(2+len(s)))
	}
	scans(t, "<==", sign("<=", 0), sign("=", 2), end(3))
	scans(t, "===", sign("==", 0), sign("=", 2), end(3))
	scans(t, "!==", sign("!=", 0), sign("=", 2), end(3))
	scans(t, "!!=", sign("!", 0), sign("!=", 1), end(3))
	scans(t, "<<=", sign("<", 0), sign("<=", 1), end(3))
	scans(t, "=<", sign("=", 0), sign("<", 1), end(2))
	scans(t, "= =", sign("=", 0), sign("=", 2), end(3))
	scans(t, "--", sign("-", 0), sign("-", 1), end(2))
	scans(t, "&&||", sign("&&", 0), sign("||", 2), end(4))
	fails(t, "&", 0, api.ErrToken)
	fails(t, "|", 0, api.ErrToken)
	fails(t, "&&&", 2, api.ErrToken)
	fails(t, "|| |", 3, api.ErrToken)
	fails(t, "& &", 0, api.ErrToken)
	fails(t, "&#\n&", 0, api.ErrToken)
	fails(t, "a > b", 2, api.ErrToken)
}

func TestScanIntegers(t *testing.T) { // P2.1
	scans(t, "0", whole(0, 0), end(1))
	scans(t, "10", whole(10, 0), end(2))
	scans(t, "9223372036854775807", whole(math.MaxInt64, 0), end(19))
	scans(t, "-9223372036854775807", sign("-", 0), whole(math.MaxInt64, 1), end(20))
	scans(t, "0 0", whole(0, 0), whole(0, 2), end(3))
	scans(t, "1#2\n3", whole(1, 0), whole(3, 4), end(5))
	fails(t, "01", 0, api.ErrToken)
	fails(t, "00", 0, api.ErrToken)
	fails(t, "1 007", 2, api.ErrToken)
	fails(t, "9223372036854775808", 0, api.ErrToken)
	fails(t, "-9223372036854775808", 1, api.ErrToken)
	fails(t, "18446744073709551616", 0, api.ErrToken)
	fails(t, strings.Repeat("9", 1000), 0, api.ErrToken)
	fails(t, "3x", 0, api.ErrToken)
	fails(t, "0x1", 0, api.ErrToken)
	fails(t, "3A", 0, api.ErrToken)
	fails(t, "3z", 0, api.ErrToken)
	fails(t, "3Z", 0, api.ErrToken)
	fails(t, "3if", 0, api.ErrToken)
	fails(t, " 12e5", 1, api.ErrToken)
	// Only a letter behind digits spoils them; a _ is none, and no token begins there.
	fails(t, "3_", 1, api.ErrToken)
	fails(t, "3.5", 1, api.ErrToken)
}

func TestScanNamesByLength(t *testing.T) { // P2.1, P2.2
	for _, n := range []string{strings.Repeat("a", 40), "Z" + strings.Repeat("_", 39), "q" + strings.Repeat("7", 39)} {
		scans(t, n, name(n, 0), end(40))
		scans(t, "("+n+")", sign("(", 0), name(n, 1), sign(")", 41), end(42))
		if !lex.IsName(n) {
			t.Errorf("IsName(%q) does not hold", n)
		}
		for _, more := range []string{"a", "_", "0", "aa", strings.Repeat("b", 1000)} {
			fails(t, n+more, 0, api.ErrToken)
			fails(t, "x = "+n+more+" @", 4, api.ErrToken)
			if lex.IsName(n + more) {
				t.Errorf("IsName(%q) holds", n+more)
			}
		}
	}
}

func TestScanBlanks(t *testing.T) { // P2.1
	scans(t, " ", end(1))
	scans(t, "\n", end(1))
	scans(t, "#", end(1))
	scans(t, "# @ 01 \t\xff\x00", end(10))
	scans(t, "#\n", end(2))
	scans(t, "##\n#\n", end(5))
	scans(t, "# a # b\nc", name("c", 8), end(9))
	scans(t, "  a \n\n b ", name("a", 2), name("b", 7), end(9))
	scans(t, "a#b\nc", name("a", 0), name("c", 4), end(5))
	scans(t, "a b", name("a", 0), name("b", 2), end(3))
	scans(t, "a\nb", name("a", 0), name("b", 2), end(3))
	fails(t, "#a\n@", 3, api.ErrToken)
}

func TestScanOtherBytes(t *testing.T) { // P2.1
	fails(t, "a @ b", 2, api.ErrToken)
	fails(t, "_a", 0, api.ErrToken)
	begins := "ABCDEFGHIJKLMNOPQRSTUVWXYZabcdefghijklmnopqrstuvwxyz0123456789(){}[],;=<!+-*/% \n#"
	for c := range 256 {
		s := string([]byte{byte(c)})
		_, _, e := lex.Scan(s)
		if strings.Contains(begins, s) != (e == api.OK) {
			t.Errorf("Scan(%q): %d", s, e)
		}
		if e != api.OK {
			fails(t, s, 0, api.ErrToken)
			fails(t, "a "+s+" b", 2, api.ErrToken)
		}
	}
}

func TestScanTheFirstError(t *testing.T) { // P2.1
	long := strings.Repeat("n", 41)
	fails(t, "@ 01", 0, api.ErrToken)
	fails(t, "a 01 @", 2, api.ErrToken)
	fails(t, "a b "+long+" 01", 4, api.ErrToken)
	fails(t, "3x "+long, 0, api.ErrToken)
}

func TestScanMaxSource(t *testing.T) { // P2.1
	blanks := strings.Repeat(" ", api.MaxSource)
	scans(t, blanks, end(api.MaxSource))
	fails(t, blanks+" ", 0, api.ErrLong)
	scans(t, blanks[1:]+"x", name("x", api.MaxSource-1), end(api.MaxSource))
	fails(t, blanks+"x", 0, api.ErrLong)
	fails(t, "@"+blanks[1:], 0, api.ErrToken)
	fails(t, blanks[1:]+"@", api.MaxSource-1, api.ErrToken)
	fails(t, "  @"+blanks, 0, api.ErrLong) // the length is told ahead of all else
	fails(t, strings.Repeat("@", 1<<20), 0, api.ErrLong)
}

func TestScanMaxTokens(t *testing.T) { // P2.1
	full := strings.Repeat(";", api.MaxTokens-1)
	l, at, e := lex.Scan(full)
	if e != api.OK || at != 0 || len(l) != api.MaxTokens || l[api.MaxTokens-1] != end(api.MaxTokens-1) {
		t.Errorf("Scan of %d signs: %d tokens, %d, %d", len(full), len(l), at, e)
	}
	over := full + ";"
	fails(t, over, api.MaxTokens, api.ErrLong) // its end is one too many
	fails(t, over+"  #x", api.MaxTokens+4, api.ErrLong)
	fails(t, over+"  ;;", api.MaxTokens+2, api.ErrLong)
	fails(t, over+" x @", api.MaxTokens+1, api.ErrLong)
	fails(t, "@"+over, 0, api.ErrToken)
	// What is no token has no number.
	fails(t, over+" @", api.MaxTokens+1, api.ErrToken)
	fails(t, over+" 01", api.MaxTokens+1, api.ErrToken)
	fails(t, over+" 3x", api.MaxTokens+1, api.ErrToken)
	fails(t, over+" "+strings.Repeat("n", 41), api.MaxTokens+1, api.ErrToken)
	fails(t, over+" "+strings.Repeat("n", 40), api.MaxTokens+1, api.ErrLong)
}

func TestPrint(t *testing.T) { // P2.2
	for _, c := range []struct {
		l    []api.Token
		want string
	}{
		{[]api.Token{end(0)}, ""},
		{[]api.Token{end(-5)}, ""}, // places play no part
		{[]api.Token{name("x", 9), sign("=", 9), whole(1, -1), end(0)}, "x = 1"},
		{[]api.Token{whole(0, 0), end(0)}, "0"},
		{[]api.Token{whole(math.MaxInt64, 0), end(0)}, "9223372036854775807"},
		{[]api.Token{key("proc", 0), name("procx", 0), sign("<=", 0), sign("=", 0), end(0)}, "proc procx <= ="},
		{[]api.Token{whole(1, 0), name("x", 0), sign("&&", 0), end(0)}, "1 x &&"},
	} {
		given := slices.Clone(c.l)
		if s, e := lex.Print(c.l); s != c.want || e != api.OK {
			t.Errorf("Print(%v) = %q, %d, want %q", c.l, s, e, c.want)
		}
		if !lex.Right(c.l) {
			t.Errorf("Right(%v) does not hold", c.l)
		}
		if !slices.Equal(c.l, given) {
			t.Errorf("%v was changed to %v", given, c.l)
		}
	}
}

func TestTokensThatAreNotRight(t *testing.T) { // P2.2
	x, e := name("x", 0), end(0)
	for _, l := range [][]api.Token{
		nil,
		{},
		{x},
		{e, e},
		{e, x},
		{e, x, e},
		{x, e, e},
		{{Kind: api.TEnd, Text: "x"}},
		{{Kind: api.TEnd, Num: 1}},
		{x, {Kind: api.TEnd, Num: -1}},
		{name("", 0), e},
		{name("proc", 0), e},
		{name("_a", 0), e},
		{name("1a", 0), e},
		{name("a b", 0), e},
		{name("a ", 0), e},
		{name("é", 0), e},
		{name(strings.Repeat("a", 41), 0), e},
		{{Kind: api.TName, Text: "x", Num: 1}, e},
		{key("", 0), e},
		{key("x", 0), e},
		{key("Proc", 0), e},
		{{Kind: api.TKey, Text: "if", Num: 1}, e},
		{whole(-1, 0), e},
		{whole(math.MinInt64, 0), e},
		{{Kind: api.TInt, Text: "1", Num: 1}, e},
		{{Kind: api.TInt, Text: "0"}, e},
		{sign("", 0), e},
		{sign("&", 0), e},
		{sign("|", 0), e},
		{sign(">", 0), e},
		{sign("<==", 0), e},
		{sign("x", 0), e},
		{sign("#", 0), e},
		{sign(" ", 0), e},
		{{Kind: api.TSign, Text: "=", Num: 1}, e},
		{{Kind: 5, Text: "x"}, e},
		{{Kind: -1}, e},
		{{Kind: math.MaxInt}, e},
		{{Kind: math.MinInt}},
		{x, whole(-1, 0), e},
		{x, name("if", 0), x, e},
	} {
		if lex.Right(l) {
			t.Errorf("Right(%v) holds", l)
		}
		if s, e := lex.Print(l); s != "" || e != api.ErrForm {
			t.Errorf("Print(%v) = %q, %d", l, s, e)
		}
	}
}

func TestIsName(t *testing.T) { // P2.2
	for _, s := range []string{"a", "z", "A", "Z", "a_", "a0", "a9", "main", "Proc", "IF", "iff", "i", "true_", "x_1_y"} {
		if !lex.IsName(s) {
			t.Errorf("IsName(%q) does not hold", s)
		}
	}
	for _, s := range append(keyWords(), "", "_", "_a", "0", "0a", " a", "a ", "a b", "a\n", "a-b", "a#", "é", "aé", "a\x00", "\xff", "@", "[", "`", "{", "a@", "a[", "a`", "a{", "a/", "a:") {
		if lex.IsName(s) {
			t.Errorf("IsName(%q) holds", s)
		}
	}
}

// tokens are some that are right, the same for the same seed.
func tokens(r *rand.Rand, n int) []api.Token {
	names := []string{"a", "x1", "main", "Proc", "if_", strings.Repeat("n", 40)}
	nums := []int64{0, 1, 9, 10, 42, math.MaxInt64}
	var l []api.Token
	for range n {
		switch r.IntN(4) {
		case 0:
			l = append(l, name(names[r.IntN(len(names))], r.IntN(9)))
		case 1:
			l = append(l, whole(nums[r.IntN(len(nums))], r.IntN(9)))
		case 2:
			l = append(l, key(keyWords()[r.IntN(len(keyWords()))], r.IntN(9)))
		case 3:
			l = append(l, sign(signs()[r.IntN(len(signs()))], r.IntN(9)))
		}
	}
	return append(l, end(r.IntN(9)))
}

// placeless are tokens without their places.
func placeless(l []api.Token) []api.Token {
	l = slices.Clone(l)
	for i := range l {
		l[i].At = 0
	}
	return l
}

func TestPrintedIsReadAgain(t *testing.T) { // P2.3
	r := rand.New(rand.NewPCG(5, 6))
	for i := range 1000 {
		l := tokens(r, i%40)
		s, e := lex.Print(l)
		m, at, f := lex.Scan(s)
		if e != api.OK || f != api.OK || at != 0 || !slices.Equal(placeless(l), placeless(m)) {
			t.Errorf("%v is printed as %q (%d) and read as %v (%d, %d)", l, s, e, m, at, f)
		}
	}
}

func TestPrintedAtTheLimits(t *testing.T) { // P2.3
	l := slices.Repeat([]api.Token{sign("<=", 0)}, api.MaxTokens-1)
	l = append(l, end(0))
	s, e := lex.Print(l)
	if m, _, f := lex.Scan(s); e != api.OK || f != api.OK || !slices.Equal(placeless(l), placeless(m)) {
		t.Errorf("%d tokens are printed (%d) and read as %d (%d)", len(l), e, len(m), f)
	}
	l = append([]api.Token{sign("<=", 0)}, l...)
	s, e = lex.Print(l) // printing has no limit
	if e != api.OK || len(s) != 3*api.MaxTokens-1 {
		t.Errorf("%d tokens are printed as %d bytes (%d)", len(l), len(s), e)
	}
	fails(t, s, len(s), api.ErrLong)
}

// written are a token's bytes.
func written(k api.Token) string {
	if k.Kind == api.TInt {
		return num.Text(k.Num)
	}
	return k.Text
}

// sources are some texts of which many can be scanned, the same in each run.
func sources() []string {
	r := rand.New(rand.NewPCG(7, 8))
	parts := append(append(keyWords(), signs()...), " ", " ", " ", "\n", "#", "# x @\n", "a", "b_", "Z", "0", "1", "42", "9223372036854775807",
		"9223372036854775808", "00", "_", "&", "|", "@", ">", "\t", "\xff", strings.Repeat("q", 39), strings.Repeat("q", 41))
	l := []string{"", "x=1#y", "a @ b", "01", "3x", "3_"}
	for i := range 4000 {
		var b strings.Builder
		for range i % 9 {
			b.WriteString(parts[r.IntN(len(parts))])
		}
		l = append(l, b.String())
	}
	return l
}

func TestPlacesRise(t *testing.T) { // P2.4
	for _, s := range sources() {
		l, _, e := lex.Scan(s)
		if e != api.OK {
			continue
		}
		behind := 0
		for i, k := range l {
			if k.At < behind || i > 0 && k.At <= l[i-1].At || !strings.HasPrefix(s[k.At:], written(k)) {
				t.Errorf("Scan(%q) = %v: number %d does not stand there", s, l, i)
			}
			behind = k.At + len(written(k))
		}
		if !lex.Right(l) || l[len(l)-1].At != len(s) {
			t.Errorf("Scan(%q) = %v", s, l)
		}
	}
}

func TestBlanksAtAnyTokensEnd(t *testing.T) { // P2.5
	for _, s := range sources() {
		l, _, e := lex.Scan(s)
		if e != api.OK {
			continue
		}
		for _, k := range l {
			cut := k.At + len(written(k))
			for _, blanks := range []string{" ", "\n", "#\n", " # a @ 01\n ", "\n#\n"} {
				more := s[:cut] + blanks + s[cut:]
				m, at, f := lex.Scan(more)
				if f != api.OK || at != 0 || !slices.Equal(placeless(l), placeless(m)) {
					t.Errorf("Scan(%q) = %v, %d, %d, and Scan(%q) = %v", more, m, at, f, s, l)
				}
			}
		}
		if m, _, f := lex.Scan(s + "#"); f != api.OK || !slices.Equal(placeless(l), placeless(m)) {
			t.Errorf("Scan(%q) with a remark at its end = %v, %d", s, m, f)
		}
	}
}

func TestNoOtherErrorAhead(t *testing.T) { // P2.6
	errors := 0
	for _, s := range sources() {
		_, at, e := lex.Scan(s)
		if e == api.OK {
			continue
		}
		errors++
		if at < 0 || at >= len(s) {
			t.Errorf("Scan(%q): %d at %d", s, e, at)
			continue
		}
		if _, place, f := lex.Scan(s[:at]); f != api.OK {
			t.Errorf("Scan(%q): %d at %d, but ahead of it %d at %d", s, e, at, f, place)
		}
	}
	if errors < 100 {
		t.Errorf("only %d errors were tried", errors)
	}
	over := strings.Repeat("; ", api.MaxTokens+1)
	_, at, _ := lex.Scan(over)
	if _, place, e := lex.Scan(over[:at]); place != at || e != api.ErrLong {
		t.Errorf("ahead of the token that is one too many: %d at %d", e, place)
	}
}

// reckoned is what Scan should answer of a short source, by patterns.
func reckoned(s string) ([]api.Token, int, api.Errno) {
	blank := regexp.MustCompile(`^(?s:[ \n]|#[^\n]*)+`)
	token := regexp.MustCompile(`^(?:[A-Za-z][A-Za-z0-9_]*|[0-9]+[A-Za-z]?|==|!=|<=|&&|\|\||[(){}\[\],;=<!+*/%-])`)
	var l []api.Token
	at := 0
	for {
		at += len(blank.FindString(s[at:]))
		if at == len(s) {
			return append(l, end(at)), 0, api.OK
		}
		w := token.FindString(s[at:])
		k := sign(w, at)
		switch {
		case w == "":
			return nil, at, api.ErrToken
		case slices.Contains(keyWords(), w):
			k = key(w, at)
		case w[0] >= '0' && w[0] <= '9':
			n, ok := new(big.Int).SetString(w, 10)
			if !ok || !n.IsInt64() || n.String() != w {
				return nil, at, api.ErrToken
			}
			k = whole(n.Int64(), at)
		case w[0] >= 'A' && w[0] <= 'Z' || w[0] >= 'a' && w[0] <= 'z':
			if len(w) > 40 {
				return nil, at, api.ErrToken
			}
			k = name(w, at)
		}
		l = append(l, k)
		at += len(w)
	}
}

func TestScanAsReckoned(t *testing.T) { // P2.1
	for _, s := range sources() {
		l, at, e := lex.Scan(s)
		m, place, f := reckoned(s)
		if e != f || at != place || !slices.Equal(l, m) {
			t.Errorf("Scan(%q) = %v, %d, %d, want %v, %d, %d", s, l, at, e, m, place, f)
		}
	}
}

func TestTokensAreNewMemory(t *testing.T) { // rule 3
	l, _, _ := lex.Scan("a b")
	l[0] = whole(7, 7)
	scans(t, "a b", name("a", 0), name("b", 2), end(3))
}

// FuzzScan: any bytes are answered, and what can be scanned is right and is read again as it is printed.
func FuzzScan(f *testing.F) { // P1, P2.3, P2.6
	for _, s := range []string{"", "x=1#y", "a @ b", "01", "3x", "\xff", "proc main ( ) { print 1 ; }", strings.Repeat(";", api.MaxTokens)} {
		f.Add(s)
	}
	f.Fuzz(func(t *testing.T, s string) {
		lex.IsName(s)
		l, at, e := lex.Scan(s)
		if e != api.OK {
			if len(l) != 0 || at < 0 || at > len(s) {
				t.Errorf("Scan(%q) = %v, %d, %d", s, l, at, e)
			}
			return
		}
		p, e := lex.Print(l)
		if e != api.OK {
			t.Errorf("Print of Scan(%q): %d", s, e)
		}
		if len(p) > api.MaxSource {
			return
		}
		if m, _, e := lex.Scan(p); e != api.OK || !slices.Equal(placeless(l), placeless(m)) {
			t.Errorf("Scan(%q) = %v, %d, want %v", p, m, e, l)
		}
	})
}
