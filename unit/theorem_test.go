package unit_test

import (
	exact "math/big"
	"math/rand/v2"
	"regexp"
	"slices"
	"strings"
	"testing"

	"kitbag/api"
	"kitbag/dim"
	"kitbag/frac"
	"kitbag/unit"
)

// unitString is what the chapter calls a unit string, apart from its length.
var unitString = regexp.MustCompile(`\A(|(1|[a-zA-Z]+[2-9]?)([*/][a-zA-Z]+[2-9]?)*)\z`)

// unitItem is an item of a unit string with the sign before it.
var unitItem = regexp.MustCompile(`([*/]?)([a-zA-Z]+)([2-9]?)`)

// known is a unit word with the values of its dimension and its factor.
type known struct {
	dim    api.Dim
	factor *exact.Rat
}

// dictionary returns all unit words.
func dictionary() map[string]known {
	l := map[string]known{}
	for word, w := range words {
		d, ok := dim.Read(w[0])
		if !ok {
			panic(word)
		}
		l[word] = known{d, value(written(w[1]))}
	}
	return l
}

// model is Read, by the words of the chapter.
type model map[string]known

func (m model) read(s string) (d api.Dim, factor *exact.Rat, e api.Errno) {
	if len(s) > 40 || !unitString.MatchString(s) {
		return d, nil, api.ErrSyntax
	}
	factor = exact.NewRat(1, 1)
	for _, x := range unitItem.FindAllStringSubmatch(s, -1) {
		w, ok := m[x[2]]
		if !ok {
			return api.Dim{}, nil, api.ErrName
		}
		exponent := 1
		if x[3] != "" {
			exponent = int(x[3][0]) - '0'
		}
		for range exponent {
			for i, n := range w.dim {
				if x[1] == "/" {
					n = -n
				}
				d[i] += n
			}
			if x[1] == "/" {
				factor.Quo(factor, w.factor)
			} else {
				factor.Mul(factor, w.factor)
			}
		}
	}
	if slices.Max(d[:]) > most || slices.Min(d[:]) < -most {
		return api.Dim{}, nil, api.ErrRange
	}
	return d, factor, api.OK
}

// check compares Read with the model, and returns its error.
func (m model) check(t *testing.T, s string) api.Errno {
	t.Helper()
	d, factor, want := m.read(s)
	u, e := unit.Read(s)
	if want != api.OK {
		fails(t, "Read of "+s, u, e, want)
	} else if e != api.OK || u.Dim != d || frac.Text(u.Factor) != factor.String() {
		t.Errorf("Read of %q is %s and %d, want %v and %s", s, spell(u), e, d, factor)
	}
	return e
}

// grow calls f with all strings of at most n pieces.
func grow(pieces []string, n int, f func(s string)) {
	var more func(s string, left int)
	more = func(s string, left int) {
		f(s)
		if left == 0 {
			return
		}
		for _, p := range pieces {
			more(s+p, left-1)
		}
	}
	more("", n)
}

// P9.2 and P9.9: no other letters form a unit word.

func TestAllShortWords(t *testing.T) {
	m := model(dictionary())
	// All letters of unit words, and some others.
	var used, all []string
	for c := 'a'; c <= 'z'; c++ {
		all = append(all, string(c), strings.ToUpper(string(c)))
	}
	for _, c := range "cdeghJklmnprstuWGMx" {
		used = append(used, string(c))
	}
	seen := map[string]bool{}
	check := func(s string) {
		if m.check(t, s) == api.OK {
			seen[s] = true
		}
	}
	grow(all, 3, check)
	grow(used, 4, check)
	if len(seen) != len(words)+1 { // and the empty string
		t.Errorf("%d of %d words were found", len(seen)-1, len(words))
	}
}

func TestAllStringsOfSixPieces(t *testing.T) {
	m := model(dictionary())
	grow([]string{"g", "m", "l", "0", "1", "2", "9", "*", "/", " "}, 6, func(s string) { m.check(t, s) })
	grow([]string{"kWh", "x", "eur", "1", "5", "*", "/"}, 6, func(s string) { m.check(t, s) })
}

// Each of some strings with each byte at each place inserted, changed or left out.
func TestChangedStrings(t *testing.T) {
	m := model(dictionary())
	for _, s := range append(slices.Clone(strs), "kt", "m9*m", "W/g", "cent2*eur3/kWh/mg2*pc/d4") {
		m.check(t, s)
		for at := range len(s) + 1 {
			for c := range 256 {
				b := string([]byte{byte(c)})
				m.check(t, s[:at]+b+s[at:])
				if at < len(s) {
					m.check(t, s[:at]+b+s[at+1:])
				}
			}
			if at < len(s) {
				m.check(t, s[:at]+s[at+1:])
			}
		}
	}
}

// anyString returns a random unit string; some are too long, or out of range.
func anyString(r *rand.Rand, list []string, items int) string {
	s := ""
	if r.IntN(4) == 0 {
		s = "1"
	}
	for range r.IntN(items + 1) {
		if s != "" {
			s += []string{"*", "/"}[r.IntN(2)]
		}
		s += list[r.IntN(len(list))]
		if n := r.IntN(24); n >= 2 && n <= most {
			s += string(rune('0' + n))
		}
	}
	return s
}

// sorted returns all unit words in their order.
func sorted() (l []string) {
	for word := range words {
		l = append(l, word)
	}
	slices.Sort(l)
	return l
}

func TestRandomStrings(t *testing.T) {
	m := model(dictionary())
	r := rand.New(rand.NewPCG(9, 1))
	list := append(sorted(), "kt", "x")
	count := map[api.Errno]int{}
	for range 100000 {
		count[m.check(t, anyString(r, list, 12))]++
	}
	for _, e := range []api.Errno{api.OK, api.ErrSyntax, api.ErrName, api.ErrRange} {
		if count[e] < 1000 {
			t.Errorf("only %d strings with the error %d", count[e], e)
		}
	}
}

// P9.6

func TestFromAndToAreInverse(t *testing.T) {
	for _, s := range strs {
		u := read(t, s)
		for _, text := range numbers {
			n := written(text)
			v, e := unit.From(n, u)
			back, f := unit.To(v, u)
			if e != api.OK || f != api.OK || !frac.Same(back, n) {
				t.Errorf("%s in %q is %s, and back %s", text, s, frac.Text(v), frac.Text(back))
			}
			m, e := unit.To(n, u)
			back, f = unit.From(m, u)
			if e != api.OK || f != api.OK || !frac.Same(back, n) {
				t.Errorf("%s is %s in %q, and back %s", text, frac.Text(m), s, frac.Text(back))
			}
		}
	}
}

func TestValuesDoNotDependOnUnits(t *testing.T) {
	compared := 0
	for _, s := range strs {
		for _, r := range strs {
			u, w := read(t, s), read(t, r)
			if u.Dim != w.Dim || s == r {
				continue
			}
			compared++
			for _, text := range numbers {
				v, _ := unit.From(written(text), u)
				n, _ := unit.To(v, w)
				if same, e := unit.From(n, w); e != api.OK || !frac.Same(same, v) {
					t.Errorf("%s in %q is %s, and %s in %q is %s", text, s, frac.Text(v), frac.Text(n), r, frac.Text(same))
				}
			}
		}
	}
	if compared < 100 {
		t.Errorf("only %d pairs of units were compared", compared)
	}
}

// The same amounts in several units, as everyone knows them.
func TestAmountsInOtherUnits(t *testing.T) {
	for _, c := range [][4]string{
		{"1", "kWh", "18/5", "MJ"}, {"90", "km/h", "25", "m/s"}, {"1", "t/m3", "1", "kg/l"}, {"1", "g/ml", "1000", "kg/kl"}, {"1", "d", "24", "h"}, {"2", "eur/kg", "1/5", "cent/g"}, {"1", "m3", "1000", "l"}, {"1", "ml", "1000", "mm3"},
		{"1", "GWh", "1000", "MWh"}, {"1000", "mWh", "1", "Wh"}, {"1", "km2", "1000000", "m2"}, {"1", "1/s", "3600", "1/h"}, {"30", "cent/kWh", "300", "eur/MWh"}, {"24", "kWh/d", "1", "kWh/h"}, {"-5", "Mg", "-5", "t"}, {"7", "", "7", "g/g"},
	} {
		v, _ := unit.From(written(c[0]), read(t, c[1]))
		if n, e := unit.To(v, read(t, c[3])); e != api.OK || !frac.Same(n, written(c[2])) || read(t, c[1]).Dim != read(t, c[3]).Dim {
			t.Errorf("%s %s are %s %s, want %s", c[0], c[1], frac.Text(n), c[3], c[2])
		}
	}
}

// P9.7

func TestConcatenationIsTheProduct(t *testing.T) {
	r := rand.New(rand.NewPCG(9, 2))
	list := sorted()
	products, quotients := 0, 0
	for range 100000 {
		a, b := anyString(r, list, 4), anyString(r, list, 4)
		u, e := unit.Read(a)
		w, f := unit.Read(b)
		joint, g := unit.Read(a + "*" + b)
		if a == "" || b == "" || b[0] == '1' || len(a+"*"+b) > 40 {
			if g != api.ErrSyntax {
				t.Errorf("Read of %q is %s and %d", a+"*"+b, spell(joint), g)
			}
		} else if e == api.OK && f == api.OK {
			products++
			if p, h := unit.Mul(u, w); h != g || !same(p, joint) {
				t.Errorf("%q denotes %s, with the error %d; the product is %s, with the error %d", a+"*"+b, spell(joint), g, spell(p), h)
			}
		}
		b = list[r.IntN(len(list))] + []string{"", "2", "3"}[r.IntN(3)]
		w, f = unit.Read(b)
		joint, g = unit.Read(a + "/" + b)
		if a != "" && len(a+"/"+b) <= 40 && e == api.OK && f == api.OK {
			quotients++
			if q, h := unit.Div(u, w); h != g || !same(q, joint) {
				t.Errorf("%q denotes %s, with the error %d; the quotient is %s, with the error %d", a+"/"+b, spell(joint), g, spell(q), h)
			}
		}
	}
	if products < 10000 || quotients < 10000 {
		t.Errorf("only %d products and %d quotients were compared", products, quotients)
	}
}

// P9.8

func TestMulIsCommutativeAndDivItsInverse(t *testing.T) {
	undone := 0
	for _, s := range strs {
		for _, r := range strs {
			a, b := read(t, s), read(t, r)
			ab, e := unit.Mul(a, b)
			ba, f := unit.Mul(b, a)
			if e != f || !same(ab, ba) {
				t.Errorf("Mul of %q and %q is %s and %d, and the other way round %s and %d", s, r, spell(ab), e, spell(ba), f)
			}
			if e == api.OK {
				undone++
				if back, f := unit.Div(ab, b); f != api.OK || !same(back, a) {
					t.Errorf("Div of %s by %q is %s and %d, want %q", spell(ab), r, spell(back), f, s)
				}
			}
			q, e := unit.Div(a, b)
			if e == api.OK {
				undone++
				if back, f := unit.Mul(q, b); f != api.OK || !same(back, a) {
					t.Errorf("Mul of %s and %q is %s and %d, want %q", spell(q), r, spell(back), f, s)
				}
			}
		}
	}
	if undone < 1000 {
		t.Errorf("only %d results were undone", undone)
	}
}

func TestStringsOfDimensionsAreUnitStrings(t *testing.T) {
	r := rand.New(rand.NewPCG(9, 3))
	check := func(d api.Dim) {
		t.Helper()
		if u, e := unit.Read(dim.Text(d)); e != api.OK || u.Dim != d || frac.Text(u.Factor) != "1/1" {
			t.Errorf("Read of %q is %s and %d", dim.Text(d), spell(u), e)
		}
	}
	check(api.Dim{})
	for i := range api.Bases {
		for n := -most; n <= most; n++ {
			var d api.Dim
			d[i] = n
			check(d)
		}
	}
	for range 100000 {
		var d api.Dim
		for i := range d {
			if r.IntN(3) > 0 {
				d[i] = r.IntN(2*most+1) - most
			}
		}
		check(d)
	}
	for bits := range 1 << api.Bases { // the longest strings
		d := api.Dim{most, most, most, most, most, most}
		for i := range d {
			if bits>>i&1 == 1 {
				d[i] = -most
			}
		}
		check(d)
	}
}

// P9.9

func TestPrefixes(t *testing.T) {
	for _, symbol := range []string{"g", "t", "m", "l", "s", "h", "d", "J", "Wh", "cent", "eur", "pc"} {
		u := read(t, symbol)
		for prefix, by := range map[string]string{"k": "1000", "M": "1000000", "G": "1000000000", "m": "1/1000"} {
			w, e := unit.Read(prefix + symbol)
			if !slices.Contains([]string{"g", "m", "l", "s", "J", "Wh"}, symbol) {
				fails(t, "Read of "+prefix+symbol, w, e, api.ErrName)
				continue
			}
			factor, _ := frac.Mul(u.Factor, written(by))
			if e != api.OK || w.Dim != u.Dim || !frac.Same(w.Factor, factor) {
				t.Errorf("Read of %q is %s and %d", prefix+symbol, spell(w), e)
			}
		}
	}
}
