package lexer_test

import (
	"math"
	"slices"
	"strings"
	"testing"

	"kitbag/api"
	"kitbag/lexer"
)

const allSigns = "(),;:=<+-*/{}"

func name(at int, text string) api.Token {
	return api.Token{Kind: api.TkName, Text: text, Pos: at}
}

func number(at int, text string, n int) api.Token {
	return api.Token{Kind: api.TkNumber, Text: text, N: n, Pos: at}
}

func str(at int, value string) api.Token {
	return api.Token{Kind: api.TkString, Text: value, Pos: at}
}

func sign(at int, text string) api.Token {
	return api.Token{Kind: api.TkSign, Text: text, Pos: at}
}

// scans checks that Scan returns tokens.
func scans(t *testing.T, s string, want ...api.Token) {
	t.Helper()
	l, at, e := lexer.Scan(s)
	if !slices.Equal(l, want) || at != 0 || e != api.OK {
		t.Errorf("Scan of %.100q is %v, %d and %d, want %v", s, l, at, e, want)
	}
}

// refuses checks that Scan returns an error.
func refuses(t *testing.T, s string, wantAt int, wantE api.Errno) {
	t.Helper()
	l, at, e := lexer.Scan(s)
	if len(l) != 0 || at != wantAt || e != wantE {
		t.Errorf("Scan of %.100q is %v, %d and %d, want the error %d at %d", s, l, at, e, wantE, wantAt)
	}
}

// P6.1

func TestTokens(t *testing.T) {
	scans(t, `a1 = "x\"y"; # z`, name(0, "a1"), sign(3, "="), str(5, `x"y`), sign(11, ";"))
	scans(t, "cell x_1 {\n\tb2c = 12 * (y-3) # 4\n}",
		name(0, "cell"), name(5, "x_1"), sign(9, "{"), name(12, "b2c"), sign(16, "="), number(18, "12", 12), sign(21, "*"),
		sign(23, "("), name(24, "y"), sign(25, "-"), number(26, "3", 3), sign(27, ")"), sign(33, "}"))
	// Nothing has to stand between two tokens, unless the first one would become longer.
	scans(t, `a"b"c"""d"`, name(0, "a"), str(1, "b"), name(4, "c"), str(5, ""), str(7, "d"))
	scans(t, "12a3", number(0, "12", 12), name(2, "a3"))
	scans(t, "1(2)a-3", number(0, "1", 1), sign(1, "("), number(2, "2", 2), sign(3, ")"), name(4, "a"), sign(5, "-"), number(6, "3", 3))
	scans(t, "0a0", number(0, "0", 0), name(1, "a0"))
	scans(t, `7"x"`, number(0, "7", 7), str(1, "x"))
}

func TestTextsWithoutTokens(t *testing.T) {
	for _, s := range []string{"", " ", "\n", "\t", " \t\n\n\t ", "#", "##", "# a", "#\n", "\n#\n#\n", "# \"", "# > _ \r\x00\xff\x80", strings.Repeat(" ", api.MaxSource), "#" + strings.Repeat("x", api.MaxSource-1)} {
		scans(t, s)
	}
}

func TestEachByte(t *testing.T) {
	for b := range 256 {
		s := string([]byte{byte(b)})
		switch {
		case strings.Contains("\t\n #", s):
			scans(t, s)
			scans(t, "a"+s, name(0, "a"))
		case b >= 'a' && b <= 'z' || b >= 'A' && b <= 'Z':
			scans(t, s, name(0, s))
			scans(t, "0"+s, number(0, "0", 0), name(1, s))
			scans(t, "a"+s, name(0, "a"+s))
		case b >= '0' && b <= '9':
			scans(t, s, number(0, s, b-'0'))
			scans(t, "a"+s, name(0, "a"+s))
			scans(t, "1"+s, number(0, "1"+s, 10+b-'0'))
		case strings.Contains(allSigns, s):
			scans(t, s, sign(0, s))
			scans(t, "a"+s+s, name(0, "a"), sign(1, s), sign(2, s))
		case s == `"`:
			refuses(t, s, 0, api.ErrForm)
		case s == "_":
			refuses(t, s, 0, api.ErrToken)
			scans(t, "a"+s, name(0, "a_"))
		default:
			refuses(t, s, 0, api.ErrToken)
			refuses(t, "a\n"+s, 2, api.ErrToken)
			refuses(t, "a"+s, 1, api.ErrToken)
		}
		if b != '\n' {
			scans(t, "#"+s+"\na", name(3, "a")) // a comment may have any byte
		}
	}
}

func TestComments(t *testing.T) {
	scans(t, "a# b\nc", name(0, "a"), name(5, "c"))
	scans(t, "a#b#c\n#d\ne#", name(0, "a"), name(9, "e"))
	scans(t, `"#" # "`, str(0, "#"))
	scans(t, "1#2\n3", number(0, "1", 1), number(4, "3", 3))
	scans(t, "# a\r b\nc", name(7, "c")) // only byte 10 ends a comment
	refuses(t, "# >\n >", 5, api.ErrToken)
	refuses(t, "#\n#\n\"", 4, api.ErrForm)
}

func TestNames(t *testing.T) {
	long := "a" + strings.Repeat("Z_9b", 4) + "xyz"
	scans(t, long, name(0, long))
	scans(t, "-"+long+"-", sign(0, "-"), name(1, long), sign(21, "-"))
	scans(t, "A z Z__ q1_2", name(0, "A"), name(2, "z"), name(4, "Z__"), name(8, "q1_2"))
	refuses(t, long+"0", 0, api.ErrRange)
	refuses(t, " "+long+"_", 1, api.ErrRange)
	refuses(t, "a "+strings.Repeat("b", 3998), 2, api.ErrRange)
}

func TestNumbers(t *testing.T) {
	scans(t, "0 1 10 907", number(0, "0", 0), number(2, "1", 1), number(4, "10", 10), number(7, "907", 907))
	scans(t, "-1099511627776", sign(0, "-"), number(1, "1099511627776", 1<<40))
	scans(t, "999999999999a", number(0, "999999999999", 999999999999), name(12, "a"))
	for _, s := range []string{"00", "01", "007", "0000000000000000000000000", "1099511627777", "1099511627780", "2000000000000", "9999999999999", "10000000000000", "9223372036854775807", "9223372036854775808", "18446744073709551616", "18446744073709551617", "340282366920938463463374607431768211457", strings.Repeat("9", 3990)} {
		refuses(t, s, 0, api.ErrRange)
		refuses(t, "a-"+s+"b", 2, api.ErrRange)
	}
}

func TestStrings(t *testing.T) {
	scans(t, `""`, str(0, ""))
	scans(t, ` "a b" `, str(1, "a b"))
	scans(t, `"\""`, str(0, `"`))
	scans(t, `"\\"`, str(0, `\`))
	scans(t, `"\\""\""`, str(0, `\`), str(4, `"`))
	scans(t, `"\\\"\\"`, str(0, `\"\`))
	scans(t, `"# _>'"#"`, str(0, "# _>'"))
	var plain []byte
	for b := 32; b <= 126; b++ {
		if b != '"' && b != '\\' {
			plain = append(plain, byte(b))
		}
	}
	scans(t, `"`+string(plain)+`"`, str(0, string(plain)))
}

// The greatest length is one of the value: escapes do not count.
func TestLongStrings(t *testing.T) {
	x, y := strings.Repeat("x", 400), strings.Repeat(`"\`, 200)
	scans(t, `"`+x+`"1`, str(0, x), number(402, "1", 1))
	scans(t, `"`+strings.Repeat(`\"\\`, 200)+`"1`, str(0, y), number(802, "1", 1))
	refuses(t, `"`+x+`x"`, 0, api.ErrForm)
	refuses(t, ` "`+strings.Repeat(`\"\\`, 200)+`\""`, 1, api.ErrForm)
	refuses(t, `"`+strings.Repeat("x", 3998)+`"`, 0, api.ErrForm)
}

func TestMalformedStrings(t *testing.T) {
	for _, s := range []string{`"`, `"ab`, `"\"`, `"\`, `"\\\"`, `"\n"`, `"\ "`, `"a\x"`, `"\'"`, "\"\\\n\"", "\"\\\x7f\"", "\"a\nb\"", "\"a\n", "\"\t\"", "\"\r\"", "\"\x00\"", "\"\x1f\"", "\"\x7f\"", "\"\x80\"", "\"\xff\"", "\"\u00e9\""} {
		refuses(t, s, 0, api.ErrForm)
		refuses(t, "a;"+s, 2, api.ErrForm)
	}
	for b := range 256 {
		s := string([]byte{'"', byte(b), '"'})
		switch {
		case b == '"': // a string and a third quote
			refuses(t, s, 2, api.ErrForm)
		case b < 32 || b > 126 || b == '\\':
			refuses(t, s, 0, api.ErrForm)
		default:
			scans(t, s, str(0, string([]byte{byte(b)})))
		}
		escaped := string([]byte{'"', '\\', byte(b), '"'})
		if b == '"' || b == '\\' {
			scans(t, escaped, str(0, string([]byte{byte(b)})))
		} else {
			refuses(t, escaped, 0, api.ErrForm)
		}
	}
}

func TestTheFirstErrorIsReturned(t *testing.T) {
	refuses(t, "x 007", 2, api.ErrRange)
	refuses(t, "a > b", 2, api.ErrToken)
	refuses(t, "a > 007 \"", 2, api.ErrToken)
	refuses(t, "007 > \"", 0, api.ErrRange)
	refuses(t, "\" > 007", 0, api.ErrForm)
	refuses(t, "1 \"\\n\" 007 >", 2, api.ErrForm)
	refuses(t, "\"a\" abcdefghijklmnopqrstu 00", 4, api.ErrRange)
	refuses(t, "a _b", 2, api.ErrToken)
	refuses(t, "1_000", 1, api.ErrToken)
	refuses(t, "1.5", 1, api.ErrToken)
	refuses(t, "a\r\n", 1, api.ErrToken)
	refuses(t, "\xef\xbb\xbfa", 0, api.ErrToken)
	refuses(t, "b\u00e9", 1, api.ErrToken)
}

func TestLongTexts(t *testing.T) {
	full := strings.Repeat("a ", api.MaxSource/2)
	if l, at, e := lexer.Scan(full); len(l) != api.MaxSource/2 || at != 0 || e != api.OK {
		t.Errorf("a text of MaxSource bytes has %d tokens, %d and %d", len(l), at, e)
	}
	// Its length comes before all other errors, and is one at 0.
	for _, s := range []string{full + " ", "   >" + full, "#" + full, strings.Repeat("9", 5000), " \"" + full, strings.Repeat(" ", 100000)} {
		refuses(t, s, 0, api.ErrFull)
	}
	refuses(t, full[:3999]+">", 3999, api.ErrToken)
	refuses(t, full[:3999]+"\"", 3999, api.ErrForm)
}

// P6.2

func TestQuote(t *testing.T) {
	long := strings.Repeat("x", 400)
	for s, want := range map[string]string{
		"":                         `""`,
		"a b":                      `"a b"`,
		`"`:                        `"\""`,
		`\`:                        `"\\"`,
		`a "b\`:                    `"a \"b\\"`,
		`\"`:                       `"\\\""`,
		`\n`:                       `"\\n"`,
		" ~#'":                     `" ~#'"`,
		long:                       `"` + long + `"`,
		strings.Repeat(`"\`, 200):  `"` + strings.Repeat(`\"\\`, 200) + `"`,
		strings.Repeat(`\`, 399):   `"` + strings.Repeat(`\\`, 399) + `"`,
		"0123456789 (),;:=<+-*/{}": `"0123456789 (),;:=<+-*/{}"`,
	} {
		if q, ok := lexer.Quote(s); q != want || !ok {
			t.Errorf("Quote of %.100q is %.100q and %v, want %.100q", s, q, ok, want)
		}
	}
	for _, s := range []string{"\n", "\t", "a\r", "\x00", "\x1f", "\x7f", "\x80", "\xff", "a\u00e9b", "\u20ac", long + "x", long + "\n", strings.Repeat(`"`, 401), strings.Repeat("x", 100000)} {
		if q, ok := lexer.Quote(s); q != "" || ok {
			t.Errorf("Quote of %.100q is %.100q and %v", s, q, ok)
		}
	}
	for b := range 256 {
		if _, ok := lexer.Quote(string([]byte{byte(b)})); ok != (b >= 32 && b <= 126) {
			t.Errorf("Quote of the byte %d returns %v", b, ok)
		}
	}
}

func TestPrint(t *testing.T) {
	l, _, _ := lexer.Scan(`f(2,"a")`)
	for _, c := range []struct {
		l    []api.Token
		want string
	}{
		{l, `f ( 2 , "a" )`},
		{l[1:2], "("},
		{nil, ""},
		{[]api.Token{}, ""},
		{[]api.Token{str(0, "")}, `""`},
		{[]api.Token{str(7, `a"\b`), name(3, "c")}, `"a\"\\b" c`}, // Pos does not count
		{[]api.Token{number(0, "12", 34)}, "12"},                  // nor does N
	} {
		if s := lexer.Print(c.l); s != c.want {
			t.Errorf("Print of %v is %q, want %q", c.l, s, c.want)
		}
	}
}

// The elements of Print may be any tokens, also those that Scan never returns.
func TestPrintOfAnyTokens(t *testing.T) {
	raw := "\"\\\n\x00\x7f\xff\u00e9"
	var l []api.Token
	for _, kind := range []int{api.TkName, api.TkNumber, api.TkSign, api.TkKinds, -1, 99, math.MinInt, math.MaxInt} {
		l = append(l, api.Token{Kind: kind, Text: raw, N: math.MinInt, Pos: -1})
	}
	if s, want := lexer.Print(l), raw+strings.Repeat(" "+raw, len(l)-1); s != want {
		t.Errorf("Print of any tokens is %q, want %q", s, want)
	}
	if s, want := lexer.Print([]api.Token{str(math.MaxInt, raw)}), "\"\\\"\\\\\n\x00\x7f\xff\u00e9\""; s != want {
		t.Errorf("Print of a string that is not valid is %q, want %q", s, want)
	}
	long := strings.Repeat(`x\`, 5000)
	if s, want := lexer.Print([]api.Token{str(0, long), name(0, long)}), `"`+strings.Repeat(`x\\`, 5000)+`" `+long; s != want {
		t.Errorf("Print of long tokens has %d bytes, want %d", len(s), len(want))
	}
	if s := lexer.Print(make([]api.Token, 5)); s != "    " {
		t.Errorf("Print of empty names is %q", s)
	}
	if s := lexer.Print([]api.Token{{}, str(0, ""), {}}); s != ` "" ` {
		t.Errorf("Print of an empty name, an empty string and an empty name is %q", s)
	}
	if s := lexer.Print(append(make([]api.Token, 0, 4), name(0, "a"), name(0, "b"))[:1]); s != "a" {
		t.Errorf("Print reads beyond the length of a slice: %q", s)
	}
}

// P6.3

func TestName(t *testing.T) {
	for _, s := range []string{"a", "Z", "a_1", "aB2_", "z___", "x0", strings.Repeat("a", 20), "A" + strings.Repeat("_", 19)} {
		if !lexer.Name(s) {
			t.Errorf("%q is no name", s)
		}
	}
	for _, s := range []string{"", "1a", "_a", "_", "1", "a b", " a", "a ", "a\n", "a#", "a-b", "a\x00", "a.", "\u00e9", "a\u00e9", "\xff", "a\xff", "\"a\"", strings.Repeat("a", 21), strings.Repeat("a", 1000000)} {
		if lexer.Name(s) {
			t.Errorf("%.100q is a name", s)
		}
	}
}

func TestNumber(t *testing.T) {
	for s, want := range map[string]int{"0": 0, "1": 1, "9": 9, "10": 10, "12": 12, "100": 100, "999999999999": 999999999999, "1099511627775": 1<<40 - 1, "1099511627776": 1 << 40} {
		if n, ok := lexer.Number(s); n != want || !ok {
			t.Errorf("Number of %q is %d and %v, want %d", s, n, ok, want)
		}
	}
	for _, s := range []string{"", "012", "00", "01", "0000000000000", "-1", "-0", "+1", "+0", "-", "+", " 1", "1 ", "1\n", "\n", "1a", "a", "1_000", "0x10", "1e3", "1.0", "1,0", "\x00", "1\x00", "\xff", "\u0661", "1099511627777", "1099511627786", "-1099511627776", "-9223372036854775808", "9223372036854775807", "9223372036854775808", "18446744073709551616", "18446744073709551617", strings.Repeat("9", 1000000), strings.Repeat("0", 1000000)} {
		if n, ok := lexer.Number(s); n != 0 || ok {
			t.Errorf("Number of %.100q is %d and %v", s, n, ok)
		}
	}
}

func TestAllShortNamesAndNumbers(t *testing.T) {
	letter := func(b int) bool { return b >= 'a' && b <= 'z' || b >= 'A' && b <= 'Z' }
	digit := func(b int) bool { return b >= '0' && b <= '9' }
	for a := range 256 {
		s := string([]byte{byte(a)})
		n, ok := lexer.Number(s)
		if lexer.Name(s) != letter(a) || ok != digit(a) || ok && n != a-'0' || !ok && n != 0 {
			t.Errorf("%q as a name or a number", s)
		}
		for b := range 256 {
			s := string([]byte{byte(a), byte(b)})
			n, ok := lexer.Number(s)
			isNumber, value := digit(a) && a != '0' && digit(b), 0
			if isNumber {
				value = 10*(a-'0') + b - '0'
			}
			if lexer.Name(s) != (letter(a) && (letter(b) || digit(b) || b == '_')) || ok != isNumber || n != value {
				t.Errorf("%q as a name or a number", s)
			}
		}
	}
}

// P6.4, and the rules P3 and P4.

func TestArgumentsAreNotChanged(t *testing.T) {
	room := []api.Token{name(0, "a"), str(2, `"\`), {Kind: 99, Text: "\n", N: -1, Pos: -1}, sign(8, "+"), number(9, "7", 7)}
	before := slices.Clone(room)
	first := lexer.Print(room[:3])
	if !slices.Equal(room, before) {
		t.Errorf("Print has changed its argument to %v", room)
	}
	if again := lexer.Print(slices.Clone(before[:3])); again != first || first != "a \"\\\"\\\\\" \n" {
		t.Errorf("Print returns %q and %q", first, again)
	}
}

func TestResultsAreFresh(t *testing.T) {
	s := `a1 = "x\"y" * 12;`
	first, _, _ := lexer.Scan(s)
	kept := slices.Clone(first)
	text := lexer.Print(first)
	second, _, _ := lexer.Scan(s)
	if !slices.Equal(first, second) {
		t.Errorf("the same call returns %v and %v", first, second)
	}
	// Also what is beyond its length belongs to a result alone.
	whole := second[:cap(second)]
	for i := range whole {
		whole[i] = api.Token{Kind: -1, Text: "changed"}
	}
	_ = append(second, api.Token{Text: "more"})
	third, _, _ := lexer.Scan(s)
	if !slices.Equal(first, kept) || !slices.Equal(third, kept) || text != `a1 = "x\"y" * 12 ;` {
		t.Errorf("results share memory: %v, %v and %q", first, third, text)
	}
}
