package frac_test

import (
	"math"
	exact "math/big"
	"slices"
	"strings"
	"testing"

	"kitbag/api"
	"kitbag/frac"
)

const most = 1<<20 - 1 // the greatest digit of an integer

// number returns a big integer with a sign and digits, the lowest one first.
func number(sign int, digits ...int) api.Big { return api.Big{Sign: sign, Digits: digits} }

// integer returns the value of a big integer: the sum of its digits times powers of 2^20, times its sign.
func integer(a api.Big) *exact.Int {
	sum := new(exact.Int)
	for i, d := range a.Digits {
		part := exact.NewInt(int64(d))
		sum.Add(sum, part.Lsh(part, uint(20*i)))
	}
	return sum.Mul(sum, exact.NewInt(int64(a.Sign)))
}

// long returns the valid big integer with a value.
func long(n *exact.Int) api.Big {
	a := api.Big{Sign: n.Sign()}
	rest := new(exact.Int).Abs(n)
	for rest.Sign() > 0 {
		a.Digits = append(a.Digits, int(rest.Uint64()%(1<<20)))
		rest.Rsh(rest, 20)
	}
	return a
}

func short(n int) api.Big { return long(exact.NewInt(int64(n))) }

// value returns the value of a fraction whose denominator is not 0.
func value(f api.Frac) *exact.Rat { return new(exact.Rat).SetFrac(integer(f.P), integer(f.Q)) }

// from returns the valid fraction with a value: the standard library keeps lowest terms and a positive denominator.
func from(r *exact.Rat) api.Frac { return api.Frac{P: long(r.Num()), Q: long(r.Denom())} }

// rational returns the value that a text writes.
func rational(s string) *exact.Rat {
	r, ok := new(exact.Rat).SetString(s)
	if !ok {
		panic(s)
	}
	return r
}

// written returns the valid fraction that a text writes.
func written(s string) api.Frac { return from(rational(s)) }

// equal reports whether two big integers have one sign and the same digits.
func equal(a, b api.Big) bool { return a.Sign == b.Sign && slices.Equal(a.Digits, b.Digits) }

// identical reports whether two fractions consist of the same integers.
func identical(a, b api.Frac) bool { return equal(a.P, b.P) && equal(a.Q, b.Q) }

// zero reports whether a result is a zero fraction: the zero integer as P and as Q.
func zero(f api.Frac) bool { return identical(f, api.Frac{}) }

// proper reports whether a big integer is valid, by the words of chapter 4.
func proper(a api.Big) bool {
	n := len(a.Digits)
	for _, d := range a.Digits {
		if d < 0 || d > most {
			return false
		}
	}
	return a.Sign >= -1 && a.Sign <= 1 && (n > 0) == (a.Sign != 0) && (n == 0 || a.Digits[n-1] != 0)
}

// right reports whether a fraction is valid, by the words of chapter 5.
func right(f api.Frac) bool {
	if !proper(f.P) || !proper(f.Q) || f.Q.Sign != 1 {
		return false
	}
	p := integer(f.P)
	return new(exact.Int).GCD(nil, nil, p.Abs(p), integer(f.Q)).Cmp(exact.NewInt(1)) == 0
}

// fractions returns valid fractions, in their order: small ones, limits of ints and of digits, close ones, and others.
func fractions() []api.Frac {
	var up []*exact.Rat
	for _, s := range []string{
		"1/1", "2/1", "3/1", "1/2", "1/3", "2/3", "3/2", "5/6", "7/3", "7/6", "355/113", "22/7", "99/100",
		"1048575/1", "1048576/1", "1/1048576", "1048575/1048576", "1048577/1048576", "1048576/3", "1048577/1048575",
		"9223372036854775807/1", "9223372036854775808/1", "1/9223372036854775807", "1/9223372036854775808", "9223372036854775807/9223372036854775808", "9223372036854775808/9223372036854775807",
		"1000000000000000000000000000001/1000000000000000000000000000000", "1000000000000000000000000000000/1000000000000000000000000000001", "1/1000000000000000000000000000000000000000",
		"10000000000000000000000000000000000000000/3", "31415926535897932384626433832795028841971/27182818284590452353602874713526624977572", "93326215443944152681699238856266700490715968264381621468592963895217599993229915608941463976156518286253697920827223758251185210916864000000000000000000000000/101",
	} {
		up = append(up, rational(s))
	}
	for _, places := range []uint{1, 2, 3, 5} {
		one := new(exact.Int).Lsh(exact.NewInt(1), 20*places)
		next := new(exact.Int).Add(one, exact.NewInt(1))
		up = append(up, new(exact.Rat).SetFrac(one, next), new(exact.Rat).SetFrac(next, one))
	}
	slices.SortFunc(up, (*exact.Rat).Cmp)
	up = slices.CompactFunc(up, func(a, b *exact.Rat) bool { return a.Cmp(b) == 0 })
	var l []api.Frac
	for _, r := range slices.Backward(up) {
		l = append(l, from(new(exact.Rat).Neg(r)))
	}
	l = append(l, written("0/1"))
	for _, r := range up {
		l = append(l, from(r))
	}
	return l
}

// broken are big integers that are not valid.
var broken = map[string]api.Big{
	"a sign of 2":         number(2, 1),
	"a sign of -2":        number(-2, 1),
	"the least sign":      number(math.MinInt, 5, 1),
	"the greatest sign":   number(math.MaxInt, 5, 1),
	"no digits":           number(1),
	"no sign":             number(0, 1),
	"a last digit of 0":   number(1, 1, 0),
	"a digit 0 alone":     number(1, 0),
	"a digit of -1":       number(1, -1, 1),
	"a digit of 2^20":     number(1, most+1, 1),
	"the least digits":    number(1, math.MinInt, math.MinInt),
	"the greatest digits": number(1, math.MaxInt, math.MaxInt),
}

// invalid returns fractions that are not valid, each for one reason the chapter names.
func invalid() map[string]api.Frac {
	prime := long(new(exact.Int).Sub(new(exact.Int).Lsh(exact.NewInt(1), 89), exact.NewInt(1)))
	twice := long(new(exact.Int).Lsh(integer(prime), 1))
	l := map[string]api.Frac{
		"a zero fraction":                 {},
		"a zero fraction of empty slices": {P: api.Big{Digits: []int{}}, Q: api.Big{Digits: []int{}}},
		"1/0":                             {P: short(1)},
		"-1/0":                            {P: short(-1)},
		"0/-1":                            {Q: short(-1)},
		"0/2":                             {Q: short(2)},
		"0 by 2^20":                       {Q: number(1, 0, 1)},
		"1/-2":                            {P: short(1), Q: short(-2)},
		"-1/-2":                           {P: short(-1), Q: short(-2)},
		"-1/-1":                           {P: short(-1), Q: short(-1)},
		"2/2":                             {P: short(2), Q: short(2)},
		"2/4":                             {P: short(2), Q: short(4)},
		"-2/4":                            {P: short(-2), Q: short(4)},
		"4/2":                             {P: short(4), Q: short(2)},
		"-15/25":                          {P: short(-15), Q: short(25)},
		"a prime by itself":               {P: prime, Q: prime},
		"a prime by its double":           {P: prime, Q: twice},
		"the double of a prime by it":     {P: twice, Q: prime},
		"a power by a greater one":        {P: number(1, 0, 0, 0, 1), Q: number(1, 0, 0, 0, 0, 1)},
	}
	for name, a := range broken {
		l[name+" above"] = api.Frac{P: a, Q: short(1)}
		l[name+" below"] = api.Frac{P: short(1), Q: a}
		l[name+" below 0"] = api.Frac{Q: a}
		l[name+" above and below"] = api.Frac{P: a, Q: a}
		l[name+" above 0"] = api.Frac{P: a}
	}
	return l
}

// check checks that a result is the valid fraction with a value, and OK.
func check(t *testing.T, what string, got api.Frac, e api.Errno, want *exact.Rat) {
	t.Helper()
	if e != api.OK || !identical(got, from(want)) {
		t.Errorf("%s is %v and %d, want %v", what, got, e, want)
	}
}

// refused checks that a result is a zero fraction and an error.
func refused(t *testing.T, what string, got api.Frac, e, want api.Errno) {
	t.Helper()
	if e != want || !zero(got) {
		t.Errorf("%s is %v and %d, want the error %d", what, got, e, want)
	}
}

// P5.1

func TestRight(t *testing.T) {
	for _, f := range append(fractions(), api.Frac{P: api.Big{Digits: []int{}}, Q: short(1)}) {
		if !frac.Right(f) {
			t.Errorf("%v is not valid", f)
		}
	}
	for name, f := range invalid() {
		if frac.Right(f) {
			t.Errorf("%s: %v is valid", name, f)
		}
	}
	for p := -30; p <= 30; p++ {
		for q := -30; q <= 30; q++ {
			f := api.Frac{P: short(p), Q: short(q)}
			if frac.Right(f) != right(f) {
				t.Errorf("Right of %d/%d is %v", p, q, frac.Right(f))
			}
		}
	}
	// What is beyond the length does not count (P3).
	if digits := []int{3, 0, -1}; !frac.Right(api.Frac{P: number(1, digits[:1]...), Q: short(2)}) || frac.Right(api.Frac{P: number(1, digits[:2]...), Q: short(2)}) {
		t.Error("parts of a slice")
	}
}

func TestSame(t *testing.T) {
	l := fractions()
	names := invalid()
	delete(names, "a zero fraction of empty slices") // this is the zero fraction
	for _, f := range names {
		l = append(l, f)
	}
	for i, a := range l {
		for k, b := range l {
			if frac.Same(a, b) != (i == k) {
				t.Errorf("Same of %v and %v is wrong", a, b)
			}
		}
	}
	for _, c := range []struct {
		a, b api.Frac
		want bool
	}{
		{api.Frac{}, api.Frac{P: api.Big{Digits: []int{}}, Q: api.Big{Digits: []int{}}}, true}, // an empty slice may be nil or not (P5)
		{written("1/2"), written("-1/2"), false},
		{written("1/2"), written("1/3"), false},
		{written("1/2"), written("3/2"), false},
		{written("1/2"), api.Frac{P: short(2), Q: short(4)}, false}, // one value, but not the same integers
		{api.Frac{P: short(2), Q: short(4)}, api.Frac{P: short(2), Q: short(4)}, true},
		{api.Frac{P: number(2, 1), Q: short(1)}, api.Frac{P: number(2, 1), Q: short(1)}, true},
		{api.Frac{P: number(1, 1, 0), Q: short(1)}, api.Frac{P: number(1, 1), Q: short(1)}, false},
		{api.Frac{P: short(1), Q: number(1, 5, 6)}, api.Frac{P: short(1), Q: api.Big{Sign: 1, Digits: []int{5, 6, 7}[:2]}}, true},
	} {
		if frac.Same(c.a, c.b) != c.want || frac.Same(c.b, c.a) != c.want {
			t.Errorf("Same of %v and %v is not %v", c.a, c.b, c.want)
		}
	}
}

// integers are values of P and Q: small ones, limits of ints and of digits, and large ones with common divisors.
func integers() []*exact.Int {
	var l []*exact.Int
	for _, s := range []string{
		"0", "1", "2", "3", "4", "6", "7", "12", "1048575", "1048576", "1048577", "2097150", "9223372036854775807", "9223372036854775808",
		"1000000000000000000000000000000", "6000000000000000000000000000000", "15511210043330985984000000", "93326215443944152681699238856266700490715968264381621468592963895217599993229915608941463976156518286253697920827223758251185210916864000000000000000000000000",
	} {
		n, _ := new(exact.Int).SetString(s, 10)
		l = append(l, n, new(exact.Int).Neg(n))
	}
	return l
}

func TestNew(t *testing.T) {
	for _, p := range integers() {
		for _, q := range integers() {
			what := "New of " + p.String() + " and " + q.String()
			got, e := frac.New(long(p), long(q))
			if q.Sign() == 0 {
				refused(t, what, got, e, api.ErrDivide)
				continue
			}
			check(t, what, got, e, new(exact.Rat).SetFrac(p, q))
		}
	}
	got, e := frac.New(api.Big{Digits: []int{}}, short(-7))
	check(t, "New of 0 and -7", got, e, new(exact.Rat))
	got, e = frac.New(short(7), api.Big{Digits: []int{}})
	refused(t, "New of 7 and 0", got, e, api.ErrDivide)
}

func TestNewOfWhatIsNotValid(t *testing.T) {
	for name, a := range broken {
		for _, n := range integers() {
			// ErrArg is the first error, also where q is 0.
			got, e := frac.New(a, long(n))
			refused(t, name+" by "+n.String(), got, e, api.ErrArg)
			got, e = frac.New(long(n), a)
			refused(t, n.String()+" by "+name, got, e, api.ErrArg)
		}
		for other, b := range broken {
			got, e := frac.New(a, b)
			refused(t, name+" by "+other, got, e, api.ErrArg)
		}
	}
}

var ints = []int{0, 1, -1, 2, -2, 3, -4, 6, 7, -7, 12, 18, most, -most, most + 1, -most - 1, most + 2, 1<<40 - 1, -1 << 40, 1 << 60, 1 << 61, 1 << 62, -1 << 62, math.MaxInt, math.MaxInt - 1, math.MinInt, math.MinInt + 1}

func TestOfAndInt(t *testing.T) {
	for _, n := range ints {
		check(t, "Int", frac.Int(n), api.OK, new(exact.Rat).SetInt64(int64(n)))
		for _, m := range ints {
			got, e := frac.Of(n, m)
			if m == 0 {
				refused(t, "Of", got, e, api.ErrDivide)
				continue
			}
			check(t, "Of", got, e, new(exact.Rat).SetFrac(exact.NewInt(int64(n)), exact.NewInt(int64(m))))
		}
	}
}

// P5.2

// operations are the four operations; those of the standard library divide only by what is not 0.
var operations = map[string]struct {
	of   func(a, b api.Frac) (api.Frac, api.Errno)
	want func(a, b *exact.Rat) *exact.Rat
}{
	"Add": {frac.Add, func(a, b *exact.Rat) *exact.Rat { return new(exact.Rat).Add(a, b) }},
	"Sub": {frac.Sub, func(a, b *exact.Rat) *exact.Rat { return new(exact.Rat).Sub(a, b) }},
	"Mul": {frac.Mul, func(a, b *exact.Rat) *exact.Rat { return new(exact.Rat).Mul(a, b) }},
	"Div": {frac.Div, func(a, b *exact.Rat) *exact.Rat { return new(exact.Rat).Quo(a, b) }},
}

// checkOperations checks what all operations return for two valid fractions.
func checkOperations(t *testing.T, a, b api.Frac) {
	t.Helper()
	x, y := value(a), value(b)
	for name, op := range operations {
		what := name + " of " + x.String() + " and " + y.String()
		got, e := op.of(a, b)
		if name == "Div" && y.Sign() == 0 {
			refused(t, what, got, e, api.ErrDivide)
			continue
		}
		check(t, what, got, e, op.want(x, y))
	}
}

func TestOperations(t *testing.T) {
	l := fractions()
	for _, a := range l {
		for _, b := range l {
			checkOperations(t, a, b)
		}
	}
}

func TestOperationsOfSmallFractions(t *testing.T) {
	var l []api.Frac
	for p := range int64(9) {
		for q := range int64(6) {
			l = append(l, from(exact.NewRat(p-4, q+1)))
		}
	}
	for _, a := range l {
		for _, b := range l {
			checkOperations(t, a, b)
		}
	}
}

func TestOperationsOfWhatIsNotValid(t *testing.T) {
	l := invalid()
	others := []api.Frac{written("0/1"), written("1/1"), written("-1/2"), written("1000000000000000000000000000001/7"), {}, l["2/4"], l["1/0"], l["0/2"], l["1/-2"], l["a sign of 2 above"]}
	for what, a := range l {
		for _, b := range others {
			for name, op := range operations {
				// ErrArg is the first error, also where Div divides by 0.
				got, e := op.of(a, b)
				refused(t, name+" of "+what, got, e, api.ErrArg)
				got, e = op.of(b, a)
				refused(t, name+" by "+what, got, e, api.ErrArg)
			}
		}
	}
}

func TestDivisionByZero(t *testing.T) {
	for _, f := range fractions() {
		for _, none := range []api.Frac{written("0/1"), {P: api.Big{Digits: []int{}}, Q: short(1)}} {
			got, e := frac.Div(f, none)
			refused(t, "Div by 0", got, e, api.ErrDivide)
		}
	}
}

func TestNeg(t *testing.T) {
	for _, f := range fractions() {
		check(t, "Neg", frac.Neg(f), api.OK, new(exact.Rat).Neg(value(f)))
	}
	for name, f := range invalid() {
		if got := frac.Neg(f); !zero(got) {
			t.Errorf("%s: Neg is %v", name, got)
		}
	}
}

// P5.3

func TestSign(t *testing.T) {
	for _, f := range fractions() {
		if got := frac.Sign(f); got != value(f).Sign() {
			t.Errorf("Sign of %v is %d", value(f), got)
		}
	}
	for name, f := range invalid() {
		if got := frac.Sign(f); got != 0 {
			t.Errorf("%s: Sign is %d", name, got)
		}
	}
}

// picked returns the lesser and the greater one of two valid fractions.
func picked(a, b api.Frac) (*exact.Rat, *exact.Rat) {
	x, y := value(a), value(b)
	if x.Cmp(y) > 0 {
		return y, x
	}
	return x, y
}

func TestCompareMinAndMax(t *testing.T) {
	l := fractions()
	for i, a := range l {
		for k, b := range l {
			want := 0
			if i < k {
				want = -1
			} else if i > k {
				want = 1
			}
			if got := frac.Compare(a, b); got != want {
				t.Errorf("Compare of %v and %v is %d", value(a), value(b), got)
			}
			least, greatest := picked(a, b)
			got, e := frac.Min(a, b)
			check(t, "Min", got, e, least)
			got, e = frac.Max(a, b)
			check(t, "Max", got, e, greatest)
		}
	}
}

func TestCompareMinAndMaxOfWhatIsNotValid(t *testing.T) {
	l := invalid()
	others := append(fractions(), api.Frac{}, l["2/4"], l["1/-2"], l["1/0"])
	for name, a := range l {
		for _, b := range others {
			if frac.Compare(a, b) != 0 || frac.Compare(b, a) != 0 {
				t.Errorf("%s: Compare with %v is not 0", name, b)
			}
			for _, of := range []func(a, b api.Frac) (api.Frac, api.Errno){frac.Min, frac.Max} {
				got, e := of(a, b)
				refused(t, name, got, e, api.ErrArg)
				got, e = of(b, a)
				refused(t, name, got, e, api.ErrArg)
			}
		}
	}
}

// floor returns the greatest integer that is at most a value.
func floor(r *exact.Rat) *exact.Int {
	// The Euclidean quotient by a positive denominator is rounded down.
	return new(exact.Int).Div(r.Num(), r.Denom())
}

func TestFloor(t *testing.T) {
	for _, f := range fractions() {
		if got, want := frac.Floor(f), floor(value(f)); !equal(got, long(want)) {
			t.Errorf("Floor of %v is %v, want %v", value(f), got, want)
		}
	}
	for s, want := range map[string]int{"-3/2": -2, "3/2": 1, "-2/1": -2, "2/1": 2, "0/1": 0, "1/9": 0, "-1/9": -1, "8/9": 0, "-8/9": -1, "-9/8": -2, "-1/1000000000000000000000000000000": -1} {
		if got := frac.Floor(written(s)); !equal(got, short(want)) {
			t.Errorf("Floor of %s is %v", s, got)
		}
	}
	for name, f := range invalid() {
		if got := frac.Floor(f); !equal(got, api.Big{}) {
			t.Errorf("%s: Floor is %v", name, got)
		}
	}
}

// P5.4

func TestText(t *testing.T) {
	for _, f := range fractions() {
		if got, want := frac.Text(f), value(f).String(); got != want {
			t.Errorf("Text of %v is %s", want, got)
		}
	}
	if got := frac.Text(api.Frac{P: api.Big{Digits: []int{}}, Q: short(1)}); got != "0/1" {
		t.Errorf("Text of 0 is %q", got)
	}
	for name, f := range invalid() {
		if got := frac.Text(f); got != "" {
			t.Errorf("%s: Text is %q", name, got)
		}
	}
}

func TestRead(t *testing.T) {
	texts := []string{"0/1", "1/1", "-1/1", "-3/2", "10/1", "1/10", "-7/1000000", "1" + strings.Repeat("0", 500) + "/" + strings.Repeat("9", 400), "-" + strings.Repeat("7", 300) + "/" + strings.Repeat("1", 299) + "0"}
	for _, f := range fractions() {
		texts = append(texts, value(f).String())
	}
	for _, s := range texts {
		got, e := frac.Read(s)
		check(t, "Read of "+s, got, e, rational(s))
	}
}

func TestWhatIsNoTextIsRefused(t *testing.T) {
	for _, s := range []string{
		"", "/", "//", "1", "-1", "0", "1/", "/1", "/1/1", "1//1", "1/1/", "/1/", "1/2/3", "1/1/1",
		"2/4", "-2/4", "0/2", "0/0", "1/0", "-1/0", "2/2", "100/10", "9223372036854775808/2", "1000000000000000000000000000000/3000000000000000000000000000000",
		"1/-2", "-1/-2", "1/-1", "0/-1", "-0/1", "1/-0", "--1/2", "1/--2", "+1/2", "1/+2", "-/2", "1/-", "-/-", "-1/", "/-1",
		"01/2", "1/02", "00/1", "-01/2", "0/01", "000/1", "1/00", " 1/2", "1/2 ", "1 /2", "1/ 2", "1/2\n", "\t1/2", "1/2\x00", "\x001/2", "1\x00/2",
		"1.5/2", "1/2.0", "1,000/7", "1_000/7", "1e3/7", "0x1/2", "1/0x2", "a/b", "a/1", "1/a", "/a", "1/2a", "1a/2", "1:2", "1\\2", "1\u20442", "1\u22152", "\u0661/\u0662", "\uff11/\uff12", "\u00bd", "\xff/1", "1/\xff", "\u22121/2", "nil", "NaN", "1/2/", "1/2;",
	} {
		got, e := frac.Read(s)
		refused(t, "Read of "+s, got, e, api.ErrForm)
	}
}

// Each byte stands once at each place of a text: only the text of a valid fraction is read, as exactly this fraction.
func TestEachByteAtEachPlace(t *testing.T) {
	const s = "-1234567890123/4567"
	for i := range len(s) {
		for c := range 256 {
			text := s[:i] + string([]byte{byte(c)}) + s[i+1:]
			r, ok := new(exact.Rat).SetString(text)
			got, e := frac.Read(text)
			// What the standard library reads in other forms, it writes in a different way.
			if ok && r.String() == text {
				check(t, "Read of "+text, got, e, r)
				continue
			}
			refused(t, "Read of "+text, got, e, api.ErrForm)
		}
	}
}

func TestExamples(t *testing.T) {
	half, third := written("1/2"), written("1/3")
	texts := func(f api.Frac, e api.Errno) string {
		if e != api.OK {
			t.Error(e)
		}
		return frac.Text(f)
	}
	for _, c := range [][2]string{
		{texts(frac.Of(6, -4)), "-3/2"}, {texts(frac.Of(0, 7)), "0/1"}, {texts(frac.Add(half, third)), "5/6"}, {texts(frac.Sub(half, third)), "1/6"}, {texts(frac.Mul(half, third)), "1/6"}, {texts(frac.Div(half, third)), "3/2"},
		{texts(frac.Neg(written("-1/2")), api.OK), "1/2"}, {texts(frac.Min(written("-1/2"), written("-1/3"))), "-1/2"}, {texts(frac.Max(written("-1/2"), written("-1/3"))), "-1/3"}, {texts(frac.Read("-3/2")), "-3/2"},
	} {
		if c[0] != c[1] {
			t.Errorf("%s, want %s", c[0], c[1])
		}
	}
	f, e := frac.Of(1, 0)
	refused(t, "Of(1, 0)", f, e, api.ErrDivide)
	f, e = frac.Read("2/4")
	refused(t, "Read of 2/4", f, e, api.ErrForm)
	if frac.Compare(written("-1/2"), written("-1/3")) != -1 || !equal(frac.Floor(written("-3/2")), short(-2)) || frac.Sign(frac.Neg(written("-1/2"))) != 1 {
		t.Error("Compare, Floor or Sign")
	}
}

// P5.5

// all calls every function with a and b, and returns all fractions and all other results; Floor becomes a part of a fraction.
func all(a, b api.Frac) (results []api.Frac, others []any) {
	for _, name := range []string{"Add", "Sub", "Mul", "Div"} {
		f, e := operations[name].of(a, b)
		results, others = append(results, f), append(others, e)
	}
	least, e := frac.Min(a, b)
	greatest, g := frac.Max(a, b)
	made, h := frac.New(a.P, b.Q)
	back, i := frac.Read(frac.Text(a))
	of, j := frac.Of(a.P.Sign, b.P.Sign)
	results = append(results, least, greatest, made, back, of, frac.Neg(a), frac.Int(a.P.Sign), api.Frac{P: frac.Floor(a), Q: frac.Floor(b)})
	return results, append(others, e, g, h, i, j, frac.Text(a), frac.Right(a), frac.Same(a, b), frac.Sign(a), frac.Compare(a, b))
}

// cases returns pairs of fractions, valid or not.
func cases() [][2]api.Frac {
	l := fractions()
	bad := invalid()
	l = append(l, bad["a last digit of 0 above"], bad["2/4"], bad["a digit of 2^20 below"], bad["1/0"], bad["a prime by its double"])
	var pairs [][2]api.Frac
	for _, a := range l {
		for _, b := range l {
			pairs = append(pairs, [2]api.Frac{a, b})
		}
	}
	return pairs
}

// withRoom returns a copy of a big integer whose digits lie in a longer slice, and this slice.
func withRoom(a api.Big) (api.Big, []int) {
	whole := append(slices.Clone(a.Digits), -7, -8, -9)
	return api.Big{Sign: a.Sign, Digits: whole[:len(a.Digits)]}, whole
}

// inRoom returns copies of two fractions whose digits lie in longer slices, and these slices.
func inRoom(p [2]api.Frac) (a, b api.Frac, memory [][]int) {
	memory = make([][]int, 4)
	a.P, memory[0] = withRoom(p[0].P)
	a.Q, memory[1] = withRoom(p[0].Q)
	b.P, memory[2] = withRoom(p[1].P)
	b.Q, memory[3] = withRoom(p[1].Q)
	return a, b, memory
}

// copies returns copies of slices.
func copies(l [][]int) (c [][]int) {
	for _, s := range l {
		c = append(c, slices.Clone(s))
	}
	return c
}

func TestArgumentsAreNotChanged(t *testing.T) {
	for _, p := range cases() {
		a, b, memory := inRoom(p)
		before := copies(memory)
		all(a, b)
		if !slices.EqualFunc(memory, before, slices.Equal[[]int]) {
			t.Errorf("%v or %v has changed", p[0], p[1])
		}
	}
}

// parts returns the digits of all numerators and denominators.
func parts(l []api.Frac) (p [][]int) {
	for _, f := range l {
		p = append(p, f.P.Digits, f.Q.Digits)
	}
	return p
}

func TestResultsShareNoMemory(t *testing.T) {
	for _, p := range cases() {
		a, b, memory := inRoom(p)
		results, _ := all(a, b)
		slots := parts(results)
		before := copies(slots)
		for _, m := range memory {
			for i := range m {
				m[i] = -1
			}
		}
		for i, s := range slots {
			if !slices.Equal(s, before[i]) {
				t.Errorf("slice %d of the results of %v and %v shares memory with an argument", i, p[0], p[1])
			}
		}
		// Also what is beyond its length belongs to a slice alone, even within one result.
		for i, s := range slots {
			whole := s[:cap(s)]
			for k := range whole {
				whole[k] = i
			}
		}
		for i, s := range slots {
			if slices.ContainsFunc(s[:cap(s)], func(d int) bool { return d != i }) {
				t.Errorf("slice %d of the results of %v and %v shares memory with another one", i, p[0], p[1])
			}
		}
		for _, m := range memory {
			if slices.ContainsFunc(m, func(d int) bool { return d != -1 }) {
				t.Errorf("a result of %v and %v shares memory with an argument", p[0], p[1])
			}
		}
	}
}

func TestTheSameCallsReturnTheSame(t *testing.T) {
	for _, p := range cases() {
		results, others := all(p[0], p[1])
		// Arguments of the same values elsewhere in memory, with room, make no difference (P5).
		a, b, _ := inRoom(p)
		again, othersAgain := all(a, b)
		if !slices.EqualFunc(results, again, identical) || !slices.Equal(others, othersAgain) {
			t.Errorf("%v and %v have different results", p[0], p[1])
		}
	}
}

func TestOneFractionTwice(t *testing.T) {
	for _, f := range fractions() {
		before := copies(parts([]api.Frac{f}))
		checkOperations(t, f, f)
		one := api.Frac{P: f.Q, Q: f.Q}
		if frac.Compare(f, f) != 0 || !frac.Same(f, f) || frac.Right(one) != (len(f.Q.Digits) == 1 && f.Q.Digits[0] == 1) {
			t.Errorf("%v and itself", value(f))
		}
		got, e := frac.New(f.Q, f.Q)
		check(t, "New of an integer by itself", got, e, exact.NewRat(1, 1))
		if !slices.EqualFunc(parts([]api.Frac{f}), before, slices.Equal[[]int]) {
			t.Errorf("%v has changed", f)
		}
	}
}

// P1: all functions return for all arguments. Nothing but the validity of the arguments decides what is an error.
func TestAllArguments(t *testing.T) {
	var l []api.Big
	for _, sign := range []int{-1, 0, 1, 2, math.MinInt, math.MaxInt} {
		l = append(l, number(sign))
		for _, d := range []int{0, 1, most, most + 1, -1, math.MinInt, math.MaxInt} {
			l = append(l, number(sign, d), number(sign, d, 1), number(sign, 3, 5, 0, 7, d))
		}
	}
	var fs []api.Frac
	for _, p := range l {
		for _, q := range l {
			fs = append(fs, api.Frac{P: p, Q: q})
		}
	}
	for i, a := range fs {
		if frac.Right(a) != right(a) {
			t.Fatalf("Right of %v is %v", a, frac.Right(a))
		}
		for _, b := range []api.Frac{a, fs[(17*i+5)%len(fs)], written("-3/7"), {}} {
			_, others := all(a, b)
			want := api.OK
			if !right(a) || !right(b) {
				want = api.ErrArg
			}
			for k, e := range others[:6] {
				if e != want && (k != 3 || want != api.OK || e != api.ErrDivide) {
					t.Fatalf("operation %d of %v and %v returns %d", k, a, b, e)
				}
			}
		}
	}
}
