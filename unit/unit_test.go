package unit_test

import (
	"math"
	exact "math/big"
	"slices"
	"strconv"
	"strings"
	"testing"

	"kitbag/api"
	"kitbag/dim"
	"kitbag/frac"
	"kitbag/unit"
)

const most = 9 // the greatest exponent of a dimension

// words are all unit words with the strings of their dimensions and of their factors.
var words = map[string][2]string{
	"g": {"g", "1/1"}, "kg": {"g", "1000/1"}, "Mg": {"g", "1000000/1"}, "Gg": {"g", "1000000000/1"}, "mg": {"g", "1/1000"},
	"t": {"g", "1000000/1"},
	"m": {"m", "1/1"}, "km": {"m", "1000/1"}, "Mm": {"m", "1000000/1"}, "Gm": {"m", "1000000000/1"}, "mm": {"m", "1/1000"},
	"l": {"m3", "1/1000"}, "kl": {"m3", "1/1"}, "Ml": {"m3", "1000/1"}, "Gl": {"m3", "1000000/1"}, "ml": {"m3", "1/1000000"},
	"s": {"s", "1/1"}, "ks": {"s", "1000/1"}, "Ms": {"s", "1000000/1"}, "Gs": {"s", "1000000000/1"}, "ms": {"s", "1/1000"},
	"h": {"s", "3600/1"}, "d": {"s", "86400/1"},
	"J": {"J", "1/1"}, "kJ": {"J", "1000/1"}, "MJ": {"J", "1000000/1"}, "GJ": {"J", "1000000000/1"}, "mJ": {"J", "1/1000"},
	"Wh": {"J", "3600/1"}, "kWh": {"J", "3600000/1"}, "MWh": {"J", "3600000000/1"}, "GWh": {"J", "3600000000000/1"}, "mWh": {"J", "18/5"},
	"cent": {"cent", "1/1"}, "eur": {"cent", "100/1"}, "pc": {"pc", "1/1"},
}

// strs are unit strings, several of most of their dimensions.
var strs = []string{
	"", "1", "g/g", "kg/g", "1/h*s", "m3/l", "l/m3", "pc/pc", "g", "kg", "mg", "t", "m", "km", "mm", "l", "ml", "m3", "mm3", "km3", "m*m2", "s", "h", "d", "ms", "J", "MJ", "GWh", "mWh", "cent", "eur", "pc", "kg/m3", "t/km3", "g/l", "l/h", "m3/s",
	"ml/d", "km/h", "m/s", "mm/ms", "1/d2", "1/s2", "1/s/h", "eur/kWh", "cent/J", "eur/t", "cent/mg", "kg*m2/s2", "g*m2/s2", "m9", "km9", "l3", "mm9", "1/m9", "1/l3", "1/pc9", "pc9", "m9*m/m", "g9*m9*s9*J9*cent9*pc9", "t9*l3*h9*kWh9*eur9*pc9",
	"1/g9/m9/s9/J9/cent9/pc9", "1/t9/l3/d9/mWh9/eur9/pc9", "GWh9", "1/GWh9", "GWh9/J9*GWh9/J9*GWh9", "mJ9/GWh9*mJ9/GWh9*mJ9",
}

// ratio returns the fraction that consists of two ints as they are; it may not be valid.
func ratio(p, q int) api.Frac {
	return api.Frac{P: frac.Int(p).P, Q: frac.Int(q).P}
}

// written returns the fraction that a text writes.
func written(s string) api.Frac {
	r, ok := new(exact.Rat).SetString(s)
	if !ok {
		panic(s)
	}
	f, e := frac.Read(r.String())
	if e != api.OK {
		panic(s)
	}
	return f
}

// value returns the value of a valid fraction.
func value(f api.Frac) *exact.Rat {
	r, ok := new(exact.Rat).SetString(frac.Text(f))
	if !ok {
		panic("a fraction that is not valid")
	}
	return r
}

// zero reports whether a fraction is a zero fraction.
func zero(f api.Frac) bool { return frac.Same(f, api.Frac{}) }

// same reports whether two units have one dimension and one factor.
func same(a, b api.Unit) bool { return a.Dim == b.Dim && frac.Same(a.Factor, b.Factor) }

// spell writes a unit in a message.
func spell(u api.Unit) string { return dim.Text(u.Dim) + ", " + frac.Text(u.Factor) }

// read returns the unit of a string, which must be valid.
func read(t *testing.T, s string) api.Unit {
	t.Helper()
	u, e := unit.Read(s)
	if e != api.OK || !unit.Right(u) {
		t.Fatalf("Read of %q is %s and %d", s, spell(u), e)
	}
	return u
}

// denotes checks that a string denotes the unit with a dimension and a factor.
func denotes(t *testing.T, s, dimension, factor string) {
	t.Helper()
	u, e := unit.Read(s)
	if e != api.OK || dim.Text(u.Dim) != dimension || frac.Text(u.Factor) != factor {
		t.Errorf("Read of %q is %s and %d, want %s, %s", s, spell(u), e, dimension, factor)
	}
}

// fails checks that a result is the zero value of api.Unit and an error.
func fails(t *testing.T, what string, u api.Unit, e, want api.Errno) {
	t.Helper()
	if e != want || !same(u, api.Unit{}) {
		t.Errorf("%.60s is %v and %d, want the error %d", what, u, e, want)
	}
}

// badFractions returns fractions that are not valid.
func badFractions() map[string]api.Frac {
	one, number := frac.Int(1).P, func(sign int, digits ...int) api.Big { return api.Big{Sign: sign, Digits: digits} }
	return map[string]api.Frac{
		"a zero fraction": {}, "1/0": {P: one}, "-1/0": {P: number(-1, 1)}, "0/2": ratio(0, 2), "0/-1": ratio(0, -1), "2/4": ratio(2, 4), "4/2": ratio(4, 2), "1/-2": ratio(1, -2), "-1/-2": ratio(-1, -2), "-2/4": ratio(-2, 4),
		"a sign of 2": {P: number(2, 1), Q: one}, "no sign": {P: number(0, 1), Q: one}, "no digits": {P: number(1), Q: one}, "a last digit of 0": {P: number(1, 1, 0), Q: one}, "a digit of 2^20": {P: number(1, 1<<20), Q: one}, "a digit of -1": {P: number(1, -1), Q: one},
		"the least digit": {P: number(1, math.MinInt, 1), Q: one}, "the greatest sign below": {P: one, Q: number(math.MaxInt, 3)}, "no digits below": {P: one, Q: number(1)}, "a last digit of 0 below": {P: one, Q: number(1, 3, 0)}, "the greatest digit below": {P: one, Q: number(1, math.MaxInt)},
	}
}

// badUnits returns units that are not valid.
func badUnits() map[string]api.Unit {
	l := map[string]api.Unit{"0/1": {Factor: frac.Int(0)}, "-1/1": {Factor: frac.Int(-1)}, "-1/1000": {Factor: written("-1/1000")}, "the least int": {Factor: frac.Int(math.MinInt)}, "-10^40": {Factor: written("-1e40")}}
	for name, f := range badFractions() {
		l[name] = api.Unit{Factor: f}
		l[name+", kg/m3"] = api.Unit{Dim: api.Dim{1, -3}, Factor: f}
	}
	for _, n := range []int{most + 1, -most - 1, 256, -256, 1 << 32, math.MaxInt, math.MinInt} {
		for i := range api.Bases {
			u := api.Unit{Dim: api.Dim{1, -1, 9, -9, 0, 2}, Factor: frac.Int(1)}
			u.Dim[i] = n
			l["the exponent "+strconv.Itoa(n)+" at "+strconv.Itoa(i)] = u
		}
	}
	return l
}

// numbers are valid fractions.
var numbers = []string{"0", "1", "-1", "3/2", "-7", "1/3", "-1/3600000", "1000", "86400", "1/1000000", "9223372036854775807", "-9223372036854775808/3", "1e60", "-7e-60", "355/113"}

// P9.1

func TestRight(t *testing.T) {
	for _, factor := range []string{"1", "1/1000", "1000000", "355/113", "1/9223372036854775808", "1e50", "1e-50"} {
		for _, d := range []api.Dim{{}, {1}, {-9, 9, -9, 9, -9, 9}, {9, 9, 9, 9, 9, 9}, {-9, -9, -9, -9, -9, -9}, {0, 3}, {0, 0, 0, 0, 0, -1}} {
			if !unit.Right(api.Unit{Dim: d, Factor: written(factor)}) {
				t.Errorf("the unit of %v and %s is not valid", d, factor)
			}
		}
	}
	for name, u := range badUnits() {
		if unit.Right(u) {
			t.Errorf("%s: %v is valid", name, u)
		}
	}
}

// P9.2

func TestWords(t *testing.T) {
	for word, w := range words {
		denotes(t, word, w[0], w[1])
		denotes(t, "1*"+word, w[0], w[1])
		denotes(t, word+"/"+word, "1", "1/1")
		denotes(t, "1/"+word+"*"+word, "1", "1/1")
	}
}

func TestStrings(t *testing.T) {
	for _, c := range [][3]string{
		{"", "1", "1/1"}, {"1", "1", "1/1"},
		{"kWh", "J", "3600000/1"}, {"kg/m3", "g/m3", "1000/1"}, {"l/h", "m3/s", "1/3600000"}, {"1/d2", "1/s2", "1/7464960000"}, {"mm*mm", "m2", "1/1000000"}, {"mm2", "m2", "1/1000000"}, // the chapter's examples
		{"m9*m/m", "m9", "1/1"},
		{"g2", "g2", "1/1"}, {"g9", "g9", "1/1"}, {"kg3", "g3", "1000000000/1"}, {"mg2", "g2", "1/1000000"}, {"1/mg2", "1/g2", "1000000/1"}, {"l2", "m6", "1/1000000"}, {"l3", "m9", "1/1000000000"}, {"1/l3", "1/m9", "1000000000/1"}, {"ml3", "m9", "1/1000000000000000000"},
		{"h2", "s2", "12960000/1"}, {"eur/pc", "cent/pc", "100/1"}, {"eur*pc2/t/kl", "cent*pc2/g/m3", "1/10000"}, {"J/s", "J/s", "1/1"}, {"kWh/d", "J/s", "125/3"}, {"km/h", "m/s", "5/18"}, {"kg*m2/s2", "g*m2/s2", "1000/1"}, {"s*g", "g*s", "1/1"}, {"pc*cent*J*s*m*g", "g*m*s*J*cent*pc", "1/1"},
		{"g/g", "1", "1/1"}, {"kg/g", "1", "1000/1"}, {"g/kg", "1", "1/1000"}, {"g/g/g", "1/g", "1/1"}, {"g/g*g", "g", "1/1"}, {"1/g/g", "1/g2", "1/1"}, {"1/g*g2", "g", "1/1"}, {"l/m3", "1", "1/1000"}, {"m3/l", "1", "1000/1"}, {"t/kg/g", "1/g", "1000/1"},
		{"m*m*m*m*m*m*m*m*m", "m9", "1/1"}, {"m4*m5", "m9", "1/1"}, {"1/m4/m5", "1/m9", "1/1"}, {"l2*m3", "m9", "1/1000000"}, {"GWh9/J9", "1", "101559956668416" + strings.Repeat("0", 99) + "/1"},
		{"g9*m9*s9*J9*cent9*pc9", "g9*m9*s9*J9*cent9*pc9", "1/1"}, {"1/g9/m9/s9/J9/cent9/pc9", "1/g9/m9/s9/J9/cent9/pc9", "1/1"},
	} {
		denotes(t, c[0], c[1], c[2])
	}
}

// Exponents that are too great are an error only if no other item cancels them.
func TestRange(t *testing.T) {
	for _, base := range []string{"g", "m", "s", "J", "cent", "pc", "kg", "mm", "t", "h", "Wh", "eur"} {
		for _, s := range []string{base + "9*" + base, base + "*" + base + "9", base + "5*" + base + "5", "1/" + base + "9/" + base, "1/" + base + "2/" + base + "8", base + "9*" + base + "9", base + "9*m3/h*" + base + "9"} {
			u, e := unit.Read(s)
			fails(t, s, u, e, api.ErrRange)
		}
		denotes(t, base+"9*"+base+"/"+base+"9/"+base, "1", "1/1")
		denotes(t, base+"9*"+base+"9/"+base+"9/"+base+"9", "1", "1/1")
		denotes(t, "1/"+base+"9/"+base+"9*"+base+"9*"+base+"9", "1", "1/1")
	}
	for _, s := range []string{"l4", "1/l4", "ml9", "l3*m", "m*l3", "l*m7", "kl5*m9", "m9*m/g", "g9*m9*s9*J9*cent9*pc9*pc", "1/g9/m9/s9/J9/cent9/pc9/g", "g*m9*m*g", "l9*l9*l9*l9*l9*l9*l9*l9*l9*l9*l9*l9*l9"} {
		u, e := unit.Read(s)
		fails(t, s, u, e, api.ErrRange)
	}
	for s, d := range map[string]string{"m9*m/m": "m9", "m9*m9/m9": "m9", "l4/m3": "m9", "l9/l9": "1", "l9/l6": "m9", "1/m9/m9*m9": "1/m9", "1/l4*m3": "1/m9", "m9*m9*m9*m9/m9/m9/m9/m8": "m"} {
		if u := read(t, s); dim.Text(u.Dim) != d {
			t.Errorf("Read of %q is %s", s, spell(u))
		}
	}
}

func TestNamesThatAreNoWords(t *testing.T) {
	for _, s := range []string{
		"W", "k", "M", "G", "x", "a", "z", "A", "Z", "w", "j", "L", "H", "D", "S", "T", "c", "e", "p", "n", "u",
		"kt", "Mt", "Gt", "mt", "kh", "mh", "Mh", "Gh", "kd", "md", "Md", "Gd", "kcent", "Mcent", "Gcent", "mcent", "keur", "Meur", "Geur", "meur", "kpc", "Mpc", "Gpc", "mpc", // no prefixes
		"kk", "kkg", "mkg", "Mkg", "kmg", "mmm", "GMg", "mmg", "kkWh", "Gmm", "mMWh", // more than one prefix
		"cg", "dl", "ug", "Tg", "hl", "pg", "Kg", "KG", "gk", "gg", "gm", "mgg", "kgm", "Whk", "kwh", "KWh", "kWH", "WH", "wh", "hW", "kW", "MW", "Whh", "kJJ", "j", "kj", "cents", "Cent", "ce", "cen", "eu", "eurs", "EUR", "Eur", "euro", "pcs", "PC", "Pc", "p", "lt", "tl", "st", "min", "sec", "nm", "ft", "kgs", "gram", "abcdefghijklmnopqrstuvwxyz", "N", "Pa",
		"W2", "kt9", "x3", "g*x", "x*g", "g/kt", "1/W", "1*x", "g*m*s*J*cent*pc*x", "x/g", "gm2", "kgm2/s2",
		strings.Repeat("g", 40), strings.Repeat("m", 39) + "9", "g*" + strings.Repeat("k", 38),
	} {
		u, e := unit.Read(s)
		fails(t, s, u, e, api.ErrName)
	}
}

func TestWhatIsNoUnitString(t *testing.T) {
	for _, s := range []string{
		"g/", "g1", "2", "g g", "1g", // the chapter's examples
		"/", "*", "/g", "*g", "g*", "1/", "1*", "g//m", "g**m", "g*/m", "g/*m", "*", "//", "1//g", "1**g", "g*m/", "g*m*", "/1", "*1", "/g/m",
		"g0", "g22", "g10", "g91", "g2g", "g2m3", "g-1", "g-2", "g+2", "g^2", "g2.0", "1/g0", "1/g1", "g*m1", "g*m0", "m02", "g12", "kg1", "l01", "2g", "m3*2", "3/m", "g/2", "g*9",
		"0", "3", "9", "11", "12", "1g", "1g2", "1kg", "g*1", "g/1", "1*1", "1/1", "1*1*g", "1/1/g", "g*1*m", "g/1/m", "1 ", " 1", "01", "1.0", "-1", "+1", "1e3",
		" ", "  ", " g", "g ", "g * m", "g* m", "g *m", "g/ m", "g /m", "1 /g", "g 2", "g\t", "\tg", "g\n", "\ng", "\n", "g\r", "g\x00", "\x00g", "\x00",
		"g-m", "g+m", "g.m", "g,m", "g;m", "g:m", "g=m", "g_m", "_", "g_", "(g)", "g(m)", "\"g\"", "g#", "g'", "g`", "g@", "g[", "{g}", "g%", "%", "$", "g\\m", "g|m", "~g", "g&m", "g!", "g?",
		"\u00b5g", "g\u00b2", "m\u00b3", "g\u00b7m", "g\u00d7m", "g\u2044m", "g\u2215m", "\u03a9", "\u20ac", "\xff", "g\xff", "\xffg", "\u0261", "\uff47", "g\u0662", "\u0661/g", "k\u0000g", "g\u00a0m", "\u212a", "e\u0301",
		strings.Repeat("g/", 20) + "g", strings.Repeat("g", 41), strings.Repeat("m", 40) + "9", "1" + strings.Repeat("/g*g", 10), "cent2" + strings.Repeat("/g*g", 9), // the length
	} {
		u, e := unit.Read(s)
		fails(t, s, u, e, api.ErrSyntax)
	}
}

// The greatest length is 40, whatever the string consists of.
func TestLength(t *testing.T) {
	for n := 1; n <= 60; n++ {
		long := strings.Repeat("g/g*", 20)
		for _, s := range []string{long[:n], "pc*" + long[:n], "1/" + long[:n], "kWh9/" + long[:n]} {
			ok := len(s) <= 40 && s[len(s)-1] == 'g'
			if u, e := unit.Read(s); ok != (e == api.OK) || !ok && e != api.ErrSyntax || ok != unit.Right(u) {
				t.Errorf("Read of %q, of length %d, is %s and %d", s, len(s), spell(u), e)
			}
		}
	}
}

// P2: ErrSyntax comes before ErrName, and ErrName before ErrRange, wherever the reasons stand.
func TestOrderOfErrors(t *testing.T) {
	for s, want := range map[string]api.Errno{
		"x/": api.ErrSyntax, "x*x1": api.ErrSyntax, "x*m9*m*": api.ErrSyntax, "m9*m/": api.ErrSyntax, "m9*m*g1": api.ErrSyntax, "/x*m9*m": api.ErrSyntax, "m9*m x": api.ErrSyntax, "1x": api.ErrSyntax, "kt1": api.ErrSyntax, "W*1": api.ErrSyntax, "x*" + strings.Repeat("m9*", 13): api.ErrSyntax,
		"m9*m*x": api.ErrName, "x*m9*m": api.ErrName, "m9*x*m": api.ErrName, "m9*m/kt": api.ErrName, "1/m9/m/W2": api.ErrName, "l4*x": api.ErrName, "kt9*m9*m": api.ErrName, "l9*l9*l9*l9*l9*l9*l9*l9*l9*l9*l9*l9*x9": api.ErrName,
		"m9*m": api.ErrRange, "m9*m*kg": api.ErrRange, "l4/t": api.ErrRange,
	} {
		u, e := unit.Read(s)
		fails(t, s, u, e, want)
	}
}

// P1: also very long strings.
func TestLongStrings(t *testing.T) {
	for _, part := range []string{"/", "*", "g", "1", "g*", "*g", "/g", "1/", "m9/", "9", "\x00", " ", "x", "k", "m", "cent*"} {
		for _, n := range []int{41, 1000, 1 << 21} {
			for _, s := range []string{strings.Repeat(part, n), "g" + strings.Repeat(part, n), "1" + strings.Repeat(part, n)} {
				u, e := unit.Read(s)
				fails(t, s, u, e, api.ErrSyntax)
			}
		}
	}
}

// P9.3

// checkMul checks Mul and Div of valid units against the words of the chapter.
func checkMul(t *testing.T, a, b api.Unit) {
	t.Helper()
	d, e := dim.Mul(a.Dim, b.Dim)
	product, f := unit.Mul(a, b)
	if e != api.OK {
		fails(t, "Mul of "+spell(a)+" and "+spell(b), product, f, e)
	} else if f != api.OK || product.Dim != d || frac.Text(product.Factor) != new(exact.Rat).Mul(value(a.Factor), value(b.Factor)).String() {
		t.Errorf("Mul of %s and %s is %s and %d", spell(a), spell(b), spell(product), f)
	}
	d, e = dim.Div(a.Dim, b.Dim)
	quotient, f := unit.Div(a, b)
	if e != api.OK {
		fails(t, "Div of "+spell(a)+" and "+spell(b), quotient, f, e)
	} else if f != api.OK || quotient.Dim != d || frac.Text(quotient.Factor) != new(exact.Rat).Quo(value(a.Factor), value(b.Factor)).String() {
		t.Errorf("Div of %s and %s is %s and %d", spell(a), spell(b), spell(quotient), f)
	}
}

func TestMulAndDiv(t *testing.T) {
	for _, c := range [][4]string{{"kg", "1/h", "kg/h", "kg*h"}, {"l", "l", "l2", "1"}, {"eur/pc", "pc", "eur", "eur/pc2"}, {"1", "J", "J", "1/J"}, {"", "kWh", "kWh", "1/kWh"}, {"kWh", "", "kWh", "kWh"}, {"km/h", "d", "km/h*d", "km/h/d"}, {"m5", "m4", "m9", "m"}, {"1/m5", "1/m4", "1/m9", "1/m"}} {
		a, b := read(t, c[0]), read(t, c[1])
		product, e := unit.Mul(a, b)
		quotient, f := unit.Div(a, b)
		if e != api.OK || f != api.OK || !same(product, read(t, c[2])) || !same(quotient, read(t, c[3])) {
			t.Errorf("Mul and Div of %s and %s are %s and %s", c[0], c[1], spell(product), spell(quotient))
		}
	}
	for _, s := range strs {
		for _, r := range strs {
			checkMul(t, read(t, s), read(t, r))
		}
	}
}

func TestMulAndDivOutOfRange(t *testing.T) {
	for i := range api.Bases {
		for _, n := range []int{most, -most} {
			a, b := api.Unit{Dim: api.Dim{1, -1, 2, -2, 3, -3}, Factor: written("1/1000")}, api.Unit{Factor: written("1000")}
			a.Dim[i], b.Dim[i] = n, n/most
			u, e := unit.Mul(a, b)
			fails(t, "Mul of "+spell(a)+" and "+spell(b), u, e, api.ErrRange)
			b.Dim[i] = -n / most
			u, e = unit.Div(a, b)
			fails(t, "Div of "+spell(a)+" and "+spell(b), u, e, api.ErrRange)
		}
	}
}

// ErrArg comes before the errors of dim.Mul and dim.Div.
func TestMulAndDivOfWhatIsNotValid(t *testing.T) {
	others := []api.Unit{read(t, "g"), read(t, "1"), read(t, "m9"), read(t, "1/g9/m9/s9/J9/cent9/pc9"), {}, {Dim: api.Dim{9, 9, 9, 9, 9, 9}, Factor: frac.Int(0)}, {Dim: api.Dim{10}, Factor: frac.Int(1)}}
	for name, bad := range badUnits() {
		for _, u := range append(others, bad) {
			for _, p := range [][2]api.Unit{{bad, u}, {u, bad}} {
				r, e := unit.Mul(p[0], p[1])
				fails(t, "Mul: "+name, r, e, api.ErrArg)
				r, e = unit.Div(p[0], p[1])
				fails(t, "Div: "+name, r, e, api.ErrArg)
			}
		}
	}
	full := api.Unit{Dim: api.Dim{most, most}, Factor: frac.Int(-1)}
	r, e := unit.Mul(full, read(t, "m9"))
	fails(t, "Mul with two errors", r, e, api.ErrArg)
	r, e = unit.Div(read(t, "1/m9"), full)
	fails(t, "Div with two errors", r, e, api.ErrArg)
}

// P9.4

// checkConversions checks From and To of a valid number and a valid unit.
func checkConversions(t *testing.T, n api.Frac, u api.Unit) {
	t.Helper()
	got, e := unit.From(n, u)
	if want := new(exact.Rat).Mul(value(n), value(u.Factor)); e != api.OK || frac.Text(got) != want.String() {
		t.Errorf("From of %s and %s is %s and %d", frac.Text(n), spell(u), frac.Text(got), e)
	}
	got, e = unit.To(n, u)
	if want := new(exact.Rat).Quo(value(n), value(u.Factor)); e != api.OK || frac.Text(got) != want.String() {
		t.Errorf("To of %s and %s is %s and %d", frac.Text(n), spell(u), frac.Text(got), e)
	}
}

func TestFromAndTo(t *testing.T) {
	for _, c := range [][4]string{{"3/2", "kWh", "5400000/1", "1/2400000"}, {"1", "t", "1000000/1", "1/1000000"}, {"-7", "l/h", "-7/3600000", "-25200000/1"}, {"0", "d", "0/1", "0/1"}, {"3/2", "", "3/2", "3/2"}, {"-5/7", "1", "-5/7", "-5/7"}, {"1", "mWh", "18/5", "5/18"}} {
		from, e := unit.From(written(c[0]), read(t, c[1]))
		to, f := unit.To(written(c[0]), read(t, c[1]))
		if e != api.OK || f != api.OK || frac.Text(from) != c[2] || frac.Text(to) != c[3] {
			t.Errorf("From and To of %s and %q are %s and %s", c[0], c[1], frac.Text(from), frac.Text(to))
		}
	}
	for _, s := range strs {
		for _, n := range numbers {
			checkConversions(t, written(n), read(t, s))
		}
	}
}

func TestFromAndToOfWhatIsNotValid(t *testing.T) {
	check := func(what string, n api.Frac, u api.Unit) {
		t.Helper()
		f, e := unit.From(n, u)
		g, h := unit.To(n, u)
		if !zero(f) || !zero(g) || e != api.ErrArg || h != api.ErrArg {
			t.Errorf("%s: From is %v and %d, To %v and %d", what, f, e, g, h)
		}
	}
	numbers := []api.Frac{frac.Int(1), frac.Int(0), written("-3/7"), {}, ratio(2, 4)}
	for name, u := range badUnits() {
		for _, n := range numbers {
			check(name, n, u)
		}
	}
	for name, n := range badFractions() {
		for _, u := range []api.Unit{read(t, "g"), read(t, "kWh"), read(t, ""), {}, {Factor: frac.Int(0)}} {
			check(name, n, u)
		}
	}
}

// P6: calculations never fail for lack of room.
func TestLargeFactors(t *testing.T) {
	for _, p := range [][2]string{{"1e4000", "7e3000"}, {"1e-4000", "3e-3000"}, {"7e-2000", "7e2000"}} {
		a, b := api.Unit{Dim: api.Dim{1, 2}, Factor: written(p[0])}, api.Unit{Dim: api.Dim{-1, 3}, Factor: written(p[1])}
		if !unit.Right(a) || !unit.Right(b) {
			t.Errorf("%s or %s is no factor", p[0], p[1])
		}
		checkMul(t, a, b)
		checkConversions(t, written("-7e1000"), a)
		checkConversions(t, written("1e-1000"), b)
	}
}

// P9.5, and the rules P3, P4 and P5

// answers are the results of all functions: units, fractions and all others.
func answers(a, b api.Unit, n api.Frac, s string) ([]api.Unit, []api.Frac, []any) {
	read, e := unit.Read(s)
	product, f := unit.Mul(a, b)
	quotient, g := unit.Div(a, b)
	from, h := unit.From(n, a)
	to, i := unit.To(n, a)
	return []api.Unit{read, product, quotient}, []api.Frac{from, to}, []any{e, f, g, h, i, unit.Right(a)}
}

// cases calls f with units, numbers and strings, valid or not.
func cases(t *testing.T, f func(a, b api.Unit, n api.Frac, s string)) {
	bad, badNumbers := badUnits(), badFractions()
	units := []api.Unit{bad["2/4"], bad["-1/1"], bad["a last digit of 0"], bad["0/1"]}
	for _, s := range strs {
		units = append(units, read(t, s))
	}
	fs := []api.Frac{badNumbers["1/-2"], badNumbers["a digit of 2^20"], {}}
	for _, s := range numbers {
		fs = append(fs, written(s))
	}
	texts := append(slices.Clone(strs), "g/", "kt", "m9*m")
	for i, a := range units {
		for k, b := range units {
			f(a, b, fs[(7*i+k)%len(fs)], texts[(5*i+3*k)%len(texts)])
		}
	}
}

// withRoom returns a copy of a fraction whose digits lie in longer slices, and these slices.
func withRoom(f api.Frac) (api.Frac, [][]int) {
	p, q := append(slices.Clone(f.P.Digits), -7, -8, -9), append(slices.Clone(f.Q.Digits), -7, -8, -9)
	f.P.Digits, f.Q.Digits = p[:len(f.P.Digits)], q[:len(f.Q.Digits)]
	return f, [][]int{p, q}
}

// parts returns the digits of the numerators and denominators of results.
func parts(units []api.Unit, fs []api.Frac) (l [][]int) {
	for _, u := range units {
		l = append(l, u.Factor.P.Digits, u.Factor.Q.Digits)
	}
	for _, f := range fs {
		l = append(l, f.P.Digits, f.Q.Digits)
	}
	return l
}

// copies returns copies of slices.
func copies(l [][]int) (c [][]int) {
	for _, s := range l {
		c = append(c, slices.Clone(s))
	}
	return c
}

// fill gives each element of a slice a value, also those beyond its length.
func fill(s []int, n int) {
	s = s[:cap(s)]
	for i := range s {
		s[i] = n
	}
}

// has reports whether all elements of a slice have a value, also those beyond its length.
func has(s []int, n int) bool {
	return !slices.ContainsFunc(s[:cap(s)], func(d int) bool { return d != n })
}

func TestResultsShareNoMemory(t *testing.T) {
	cases(t, func(a, b api.Unit, n api.Frac, s string) {
		var first, second, third [][]int
		a.Factor, first = withRoom(a.Factor)
		b.Factor, second = withRoom(b.Factor)
		n, third = withRoom(n)
		memory := append(append(first, second...), third...)
		before := copies(memory)
		units, fs, _ := answers(a, b, n, s)
		if !slices.EqualFunc(memory, before, slices.Equal[[]int]) {
			t.Errorf("%s, %s or %s has changed", spell(a), spell(b), frac.Text(n))
		}
		slots := parts(units, fs)
		before = copies(slots)
		for _, m := range memory {
			fill(m, -1)
		}
		if !slices.EqualFunc(slots, before, slices.Equal[[]int]) {
			t.Error("a result shares memory with an argument")
		}
		for i, slot := range slots {
			fill(slot, i)
		}
		for i, slot := range slots {
			if !has(slot, i) {
				t.Error("two results share memory")
			}
		}
		for _, m := range memory {
			if !has(m, -1) {
				t.Error("a result shares memory with an argument")
			}
		}
	})
}

// Results depend on the arguments alone: not on what was done with earlier results, nor on where arguments lie.
func TestTheSameCallsReturnTheSame(t *testing.T) {
	cases(t, func(a, b api.Unit, n api.Frac, s string) {
		spoilt, spoiltToo, others := answers(a, b, n, s)
		before := copies(parts(spoilt, spoiltToo))
		for _, slot := range parts(spoilt, spoiltToo) {
			fill(slot, 5)
		}
		a.Factor, _ = withRoom(a.Factor)
		b.Factor, _ = withRoom(b.Factor)
		n, _ = withRoom(n)
		units, fs, again := answers(a, b, n, s)
		if !slices.EqualFunc(parts(units, fs), before, slices.Equal[[]int]) || !slices.Equal(others, again) {
			t.Errorf("other results for %s, %s, %s and %q", spell(a), spell(b), frac.Text(n), s)
		}
		for i, u := range units {
			if u.Dim != spoilt[i].Dim {
				t.Errorf("another dimension for %s, %s and %q", spell(a), spell(b), s)
			}
		}
	})
}

func TestOneUnitTwice(t *testing.T) {
	for _, s := range strs {
		u := read(t, s)
		checkMul(t, u, u)
		checkConversions(t, u.Factor, u)
		if !same(u, read(t, s)) {
			t.Errorf("%q has changed", s)
		}
	}
}
