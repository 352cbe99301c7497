package lexer_test

import (
	"math/rand/v2"
	"regexp"
	"slices"
	"strconv"
	"strings"
	"testing"

	"kitbag/api"
	"kitbag/lexer"
)

// The model: the words of the chapter as regular expressions. A byte that is no UTF-8 is in no class of theirs but [^\n], as it should be.
var (
	blanks   = regexp.MustCompile(`^(?:[\t\n ]|#[^\n]*(?:\n|$))*`)
	nameForm = regexp.MustCompile(`^[A-Za-z][A-Za-z0-9_]*`)
	numForm  = regexp.MustCompile(`^[0-9]+`)
	strForm  = regexp.MustCompile(`^"(?:[ !#-\[\]-~]|\\["\\])*"`)
	signForm = regexp.MustCompile(`^[(),;:=<+*/{}-]`)
	between  = regexp.MustCompile(`^(?:[\t\n ]|#[^\n]*\n)*$`)
)

// model is Scan, by the words of the chapter.
func model(s string) (l []api.Token, at int, e api.Errno) {
	if len(s) > 4000 {
		return nil, 0, api.ErrFull
	}
	for {
		at += len(blanks.FindString(s[at:]))
		if at == len(s) {
			return l, 0, api.OK
		}
		t, size, e := modelToken(s[at:])
		if e != api.OK {
			return nil, at, e
		}
		t.Pos = at
		l = append(l, t)
		at += size
	}
}

func modelToken(s string) (api.Token, int, api.Errno) {
	if w := nameForm.FindString(s); w != "" {
		if len(w) > 20 {
			return api.Token{}, 0, api.ErrRange
		}
		return api.Token{Kind: api.TkName, Text: w}, len(w), api.OK
	}
	if w := numForm.FindString(s); w != "" {
		n, err := strconv.Atoi(w)
		if err != nil || n > 1<<40 || w != "0" && w[0] == '0' {
			return api.Token{}, 0, api.ErrRange
		}
		return api.Token{Kind: api.TkNumber, Text: w, N: n}, len(w), api.OK
	}
	if w := strForm.FindString(s); w != "" {
		v := strings.NewReplacer(`\"`, `"`, `\\`, `\`).Replace(w[1 : len(w)-1])
		if len(v) > 400 {
			return api.Token{}, 0, api.ErrForm
		}
		return api.Token{Kind: api.TkString, Text: v}, len(w), api.OK
	}
	if w := signForm.FindString(s); w != "" {
		return api.Token{Kind: api.TkSign, Text: w}, 1, api.OK
	}
	if s[0] == '"' {
		return api.Token{}, 0, api.ErrForm
	}
	return api.Token{}, 0, api.ErrToken
}

// checkModel checks that Scan and the model agree.
func checkModel(t *testing.T, s string) {
	t.Helper()
	l, at, e := lexer.Scan(s)
	if want, wantAt, wantE := model(s); !slices.Equal(l, want) || at != wantAt || e != wantE {
		t.Errorf("Scan of %q is %v, %d and %d, want %v, %d and %d", s, l, at, e, want, wantAt, wantE)
	}
}

// shortTexts calls f with all texts of at most n of the bytes.
func shortTexts(bytes string, n int, f func(s string)) {
	level := []string{""}
	for range n {
		var next []string
		for _, s := range level {
			f(s)
			for i := range len(bytes) {
				next = append(next, s+bytes[i:i+1])
			}
		}
		level = next
	}
	for _, s := range level {
		f(s)
	}
}

func TestAllTextsOfTwoBytes(t *testing.T) {
	for a := range 256 {
		for b := range 256 {
			checkModel(t, string([]byte{byte(a), byte(b)}))
		}
	}
}

func TestAllShortTexts(t *testing.T) {
	shortTexts("a0_\"\\#\n +", 5, func(s string) { checkModel(t, s) })
	shortTexts("a\"\\#\n", 7, func(s string) { checkModel(t, s) })
	shortTexts("a1\"\r\x7f\xff ", 4, func(s string) { checkModel(t, s) })
}

// piece returns a part of a text: most of them are tokens, blanks and comments; some are errors, if bad.
func piece(r *rand.Rand, bad bool) string {
	if bad && r.IntN(12) == 0 {
		l := []string{">", "_", "\r", "\x00", "\xc3\xa9", "00", "05", "1099511627777", "99999999999999999999", "abcdefghijklmnopqrstu", "\"", "\"\\n\"", "\"\n\"", "\"\\\"", "\"\x7f\"", "\\", "\"" + strings.Repeat("y", 401) + "\""}
		return l[r.IntN(len(l))]
	}
	l := []string{" ", " ", "\n", "\t", "  ", "# c \" > \\\n", "#\n", "#" + strings.Repeat("\xff", r.IntN(4)) + "\n", "a", "b_1", "Zz9", "abcdefghijklmnopqrst", "0", "7", "40", "1099511627776", `""`, `"kWh"`, `"a\"b\\"`, `"# \\"`, "\"" + strings.Repeat("y", r.IntN(401)) + "\""}
	if n := r.IntN(2 * len(l)); n < len(l) {
		return l[n]
	}
	n := r.IntN(len(allSigns))
	return allSigns[n : n+1]
}

// text returns a text of at most n pieces.
func text(r *rand.Rand, n int, bad bool) string {
	var b strings.Builder
	for range r.IntN(n + 1) {
		b.WriteString(piece(r, bad))
	}
	if r.IntN(8) == 0 {
		b.WriteString("# the end")
	}
	return b.String()
}

func TestManyTexts(t *testing.T) {
	r := rand.New(rand.NewPCG(6, 1))
	for range 40000 {
		checkModel(t, text(r, 30, r.IntN(2) == 0))
	}
	for range 40000 { // any bytes
		b := make([]byte, r.IntN(60))
		for i := range b {
			b[i] = byte(r.IntN(256))
		}
		checkModel(t, string(b))
	}
	for range 300 { // texts about as long as MaxSource
		s := strings.Repeat(text(r, 40, false)+"\n", 200)
		for _, n := range []int{3999, 4000, 4001} {
			checkModel(t, s[:min(n, len(s))])
		}
	}
}

// moved returns tokens with positions that are greater by n.
func moved(l []api.Token, n int) (m []api.Token) {
	for _, t := range l {
		t.Pos += n
		m = append(m, t)
	}
	return m
}

// withoutPositions returns tokens apart from their Pos.
func withoutPositions(l []api.Token) (m []api.Token) {
	for _, t := range l {
		t.Pos = 0
		m = append(m, t)
	}
	return m
}

// P6.5

func TestScanOfPrint(t *testing.T) {
	check := func(s string) bool {
		l, _, e := lexer.Scan(s)
		p := lexer.Print(l)
		if e != api.OK || len(p) > api.MaxSource {
			return false
		}
		again, at, e := lexer.Scan(p)
		if e != api.OK || at != 0 || !slices.Equal(withoutPositions(again), withoutPositions(l)) || lexer.Print(again) != p {
			t.Errorf("%q has other tokens than its print %q", s, p)
		}
		return true
	}
	r := rand.New(rand.NewPCG(6, 2))
	count := 0
	for range 20000 {
		if check(text(r, 30, false)) {
			count++
		}
	}
	if count < 5000 {
		t.Errorf("only %d of the texts have tokens", count)
	}
	shortTexts("a0_\"\\#\n -", 5, func(s string) { check(s) })
	// The print of a text may be too long.
	if check(strings.Repeat("+", 2001)) || !check(strings.Repeat("+", 2000)) {
		t.Error("the print of many signs")
	}
}

// P6.6

// checkOrder checks that the tokens of a text are in order and do not overlap, and that only blanks and comments lie between them.
func checkOrder(t *testing.T, s string) {
	t.Helper()
	l, _, e := lexer.Scan(s)
	if e != api.OK {
		return
	}
	end := 0
	for _, x := range l {
		source := x.Text
		if x.Kind == api.TkString {
			source, _ = lexer.Quote(x.Text)
		}
		if x.Pos < end || !strings.HasPrefix(s[x.Pos:], source) || source == "" || !between.MatchString(s[end:x.Pos]) {
			t.Errorf("%q has the token %v, after one that ends at %d", s, x, end)
			return
		}
		end = x.Pos + len(source)
	}
	if blanks.FindString(s[end:]) != s[end:] {
		t.Errorf("the tokens of %q end at %d", s, end)
	}
}

// checkError checks that what precedes an error can be divided into tokens.
func checkError(t *testing.T, s string) {
	t.Helper()
	_, at, e := lexer.Scan(s)
	if e == api.OK {
		return
	}
	if _, _, before := lexer.Scan(s[:at]); before != api.OK {
		t.Errorf("%q has an error at %d, and the text before it another one", s, at)
	}
}

// checkTwo checks the tokens of s, a byte 10 and u.
func checkTwo(t *testing.T, s, u string) {
	t.Helper()
	both := s + "\n" + u
	if len(both) > api.MaxSource {
		return
	}
	first, at, e := lexer.Scan(s)
	if e == api.OK {
		var second []api.Token
		second, at, e = lexer.Scan(u)
		first = append(first, moved(second, len(s)+1)...)
		if e != api.OK {
			first, at = nil, at+len(s)+1
		}
	}
	l, bothAt, bothE := lexer.Scan(both)
	if !slices.Equal(l, first) || bothAt != at || bothE != e {
		t.Errorf("the tokens of %q are not those of its two texts: %v, %d and %d", both, l, bothAt, bothE)
	}
}

func TestPartsOfTexts(t *testing.T) {
	shortTexts("a0_\"\\#\n -", 5, func(s string) {
		checkOrder(t, s)
		checkError(t, s)
	})
	var l []string
	shortTexts("a0\"\\# -", 3, func(s string) { l = append(l, s) })
	for _, s := range l {
		for _, u := range l {
			checkTwo(t, s, u)
		}
	}
	r := rand.New(rand.NewPCG(6, 3))
	for range 20000 {
		s, u := text(r, 25, r.IntN(3) == 0), text(r, 25, r.IntN(3) == 0)
		checkOrder(t, s)
		checkError(t, s)
		checkTwo(t, s, u)
	}
}

// P6.7

func TestScanOfQuote(t *testing.T) {
	check := func(s string) {
		q, ok := lexer.Quote(s)
		l, at, e := lexer.Scan(q)
		if !ok || !slices.Equal(l, []api.Token{str(0, s)}) || at != 0 || e != api.OK {
			t.Errorf("Quote of %q is %q and %v, and Scan of this is %v, %d and %d", s, q, ok, l, at, e)
		}
		if p := lexer.Print([]api.Token{str(5, s)}); p != q {
			t.Errorf("Print of a string with the value %q is %q, and Quote of it is %q", s, p, q)
		}
	}
	shortTexts("a\"\\ #n", 5, check)
	r := rand.New(rand.NewPCG(6, 4))
	for range 5000 {
		b := make([]byte, r.IntN(401))
		for i := range b {
			b[i] = byte(32 + r.IntN(95))
			if r.IntN(4) == 0 {
				b[i] = `"\`[r.IntN(2)]
			}
		}
		check(string(b))
	}
}
