package span_test

import (
	"math"
	exact "math/big"
	"slices"
	"testing"

	"kitbag/api"
	"kitbag/frac"
	"kitbag/span"
)

// rational returns the value that a text writes.
func rational(s string) *exact.Rat {
	r, ok := new(exact.Rat).SetString(s)
	if !ok {
		panic(s)
	}
	return r
}

// from returns the valid fraction with a value.
func from(r *exact.Rat) api.Frac {
	f, e := frac.Read(r.String())
	if e != api.OK {
		panic(r.String())
	}
	return f
}

// written returns the valid fraction that a text writes.
func written(s string) api.Frac { return from(rational(s)) }

// value returns the value of a valid fraction.
func value(f api.Frac) *exact.Rat { return rational(frac.Text(f)) }

// ratio returns the fraction that consists of two ints as they are; it may not be valid.
func ratio(p, q int) api.Frac { return api.Frac{P: frac.Int(p).P, Q: frac.Int(q).P} }

// bounds are the values of the ends of a span.
type bounds struct{ low, high *exact.Rat }

// interval returns the values of the ends of a valid span.
func interval(s api.Span) bounds { return bounds{value(s.Low), value(s.High)} }

// of returns the span from one fraction to another, as texts write them; it may not be valid.
func of(low, high string) api.Span { return api.Span{Low: written(low), High: written(high)} }

// spell writes a span in a message.
func spell(s api.Span) string { return frac.Text(s.Low) + " to " + frac.Text(s.High) }

// equal reports whether two big integers have one sign and the same digits.
func equal(a, b api.Big) bool { return a.Sign == b.Sign && slices.Equal(a.Digits, b.Digits) }

// identical reports whether two fractions consist of the same integers.
func identical(a, b api.Frac) bool { return equal(a.P, b.P) && equal(a.Q, b.Q) }

// twin reports whether two spans consist of the same integers.
func twin(a, b api.Span) bool { return identical(a.Low, b.Low) && identical(a.High, b.High) }

// is checks that a result is the span with these ends, and OK.
func is(t *testing.T, what string, got api.Span, e api.Errno, want bounds) {
	t.Helper()
	if e != api.OK || !twin(got, api.Span{Low: from(want.low), High: from(want.high)}) {
		t.Errorf("%.200s is %s and %d, want %s to %s", what, spell(got), e, want.low, want.high)
	}
}

// fails checks that a result is the zero span and an error.
func fails(t *testing.T, what string, got api.Span, e, want api.Errno) {
	t.Helper()
	if e != want || !twin(got, api.Span{}) {
		t.Errorf("%.200s is %v and %d, want the error %d", what, got, e, want)
	}
}

// fractions are valid fractions, in their order.
func fractions() []api.Frac {
	var l []api.Frac
	for _, s := range []string{
		"-70000000000000000000000000000000000000000/3", "-9223372036854775809", "-5", "-2", "-3/2", "-1", "-1/3", "-1e-30",
		"0", "1/9223372036854775808", "1/3", "1/2", "1", "2", "3", "9223372036854775807/2", "1000000000000000000000000000001", "1000000000000000000000000000002",
	} {
		l = append(l, written(s))
	}
	return l
}

// spans are all spans from one of the fractions to the same or a greater one.
func spans() []api.Span {
	var l []api.Span
	fs := fractions()
	for i, low := range fs {
		for _, high := range fs[i:] {
			l = append(l, api.Span{Low: low, High: high})
		}
	}
	return l
}

// few are spans with ends of all signs; some of them lie in others, meet others in one fraction, or meet no other.
func few() []api.Span {
	var l []api.Span
	fs := fractions()
	for i := 0; i < len(fs); i += 2 {
		for k := i; k < len(fs); k += 2 {
			l = append(l, api.Span{Low: fs[i], High: fs[k]})
		}
	}
	return l
}

// badFractions returns fractions that are not valid.
func badFractions() map[string]api.Frac {
	one, number := frac.Int(1).P, func(sign int, digits ...int) api.Big { return api.Big{Sign: sign, Digits: digits} }
	return map[string]api.Frac{
		"a zero fraction": {}, "1/0": {P: one}, "-1/0": {P: number(-1, 1)}, "0/2": ratio(0, 2), "0/-1": ratio(0, -1), "2/4": ratio(2, 4), "4/2": ratio(4, 2), "1/-2": ratio(1, -2), "-1/-2": ratio(-1, -2), "-2/4": ratio(-2, 4),
		"a sign of 2": {P: number(2, 1), Q: one}, "no sign": {P: number(0, 1), Q: one}, "no digits": {P: number(1), Q: one}, "a last digit of 0": {P: number(1, 1, 0), Q: one}, "a digit of 2^20": {P: number(1, 1<<20), Q: one}, "a digit of -1": {P: number(1, -1), Q: one},
		"the least digit": {P: number(1, math.MinInt, 1), Q: one}, "the greatest sign below": {P: one, Q: number(math.MaxInt, 3)}, "no digits below": {P: one, Q: number(1)}, "a last digit of 0 below": {P: one, Q: number(1, 3, 0)}, "the greatest digit below": {P: one, Q: number(1, math.MaxInt)},
	}
}

// badSpans returns spans that are not valid, each for one reason the chapter names.
func badSpans() map[string]api.Span {
	l := map[string]api.Span{
		"1 to 0": of("1", "0"), "0 to -1": of("0", "-1"), "2 to 1": of("2", "1"), "-1 to -2": of("-1", "-2"), "1 to -1": of("1", "-1"), "1/2 to 1/3": of("1/2", "1/3"), "-1/3 to -1/2": of("-1/3", "-1/2"), "7e40 to -7e40": of("7e40", "-7e40"),
		"nearly a point": of("1000000000000000000000000000001/1000000000000000000000000000000", "1000000000000000000000000000002/1000000000000000000000000000001"),
		"empty slices":   {Low: api.Frac{P: api.Big{Digits: []int{}}}, High: api.Frac{Q: api.Big{Digits: []int{}}}},
		"1/2 to 2/4":     {Low: ratio(1, 2), High: ratio(2, 4)},
		"2/4 to 1/2":     {Low: ratio(2, 4), High: ratio(1, 2)},
	}
	for name, f := range badFractions() {
		l[name+" to 1"] = api.Span{Low: f, High: frac.Int(1)}
		l[name+" to 10^50"] = api.Span{Low: f, High: written("1e50")}
		l["-10^50 to "+name] = api.Span{Low: written("-1e50"), High: f}
		l["0 to "+name] = api.Span{Low: frac.Int(0), High: f}
		l[name+" to itself"] = api.Span{Low: f, High: f}
	}
	return l
}

// P10.1

func TestRight(t *testing.T) {
	for _, s := range append(spans(), api.Span{Low: api.Frac{P: api.Big{Digits: []int{}}, Q: frac.Int(1).P}, High: frac.Int(0)}) {
		if !span.Right(s) {
			t.Errorf("%s is not valid", spell(s))
		}
	}
	for name, s := range badSpans() {
		if span.Right(s) {
			t.Errorf("%s: %v is valid", name, s)
		}
	}
	fs := fractions()
	for i, low := range fs {
		for k, high := range fs {
			if span.Right(api.Span{Low: low, High: high}) != (i <= k) {
				t.Errorf("Right of %s to %s is %v", frac.Text(low), frac.Text(high), i > k)
			}
		}
	}
}

func TestSame(t *testing.T) {
	l := spans()
	names := badSpans()
	delete(names, "empty slices") // this is the zero span, in another form
	for _, s := range names {
		l = append(l, s)
	}
	for i, a := range l {
		for k, b := range l {
			if span.Same(a, b) != (i == k) {
				t.Errorf("Same of %v and %v is %v", a, b, i != k)
			}
		}
	}
	zero := badSpans()["empty slices"]
	if !span.Same(zero, api.Span{}) || !span.Same(api.Span{}, zero) || !span.Same(api.Span{}, api.Span{}) {
		t.Error("an empty slice may be nil or not")
	}
	// One value, but not the same fractions.
	if half, twice := written("1/2"), ratio(2, 4); span.Same(api.Span{Low: half, High: half}, api.Span{Low: half, High: twice}) || span.Same(api.Span{Low: half, High: half}, api.Span{Low: twice, High: half}) {
		t.Error("1/2 and 2/4 are the same")
	}
}

func TestPoint(t *testing.T) {
	for _, f := range fractions() {
		is(t, "Point", span.Point(f), api.OK, bounds{value(f), value(f)})
	}
	for name, f := range badFractions() {
		if got := span.Point(f); !twin(got, api.Span{}) {
			t.Errorf("%s: Point is %v", name, got)
		}
	}
}

func TestHas(t *testing.T) {
	for _, s := range spans() {
		for _, f := range fractions() {
			want := value(f).Cmp(value(s.Low)) >= 0 && value(f).Cmp(value(s.High)) <= 0
			if span.Has(s, f) != want {
				t.Errorf("Has of %s and %s is %v", spell(s), frac.Text(f), !want)
			}
		}
	}
	s := of("-1/2", "3")
	for f, want := range map[string]bool{"-1/2": true, "3": true, "0": true, "-500000000000000000001/1000000000000000000000": false, "-499999999999999999999/1000000000000000000000": true, "3000000000000000000001/1000000000000000000000": false, "2999999999999999999999/1000000000000000000000": true} {
		if span.Has(s, written(f)) != want {
			t.Errorf("Has of -1/2 to 3 and %s is %v", f, !want)
		}
	}
}

func TestHasOfWhatIsNotValid(t *testing.T) {
	for name, f := range badFractions() {
		for _, s := range spans() {
			if span.Has(s, f) {
				t.Errorf("%s contains %s", spell(s), name)
			}
		}
	}
	for name, s := range badSpans() {
		for _, f := range append(fractions(), s.Low, s.High) {
			if span.Has(s, f) {
				t.Errorf("%s contains %s", name, frac.Text(f))
			}
		}
	}
}

func TestInside(t *testing.T) {
	for _, a := range spans() {
		for _, b := range spans() {
			x, y := interval(a), interval(b)
			want := y.low.Cmp(x.low) <= 0 && x.high.Cmp(y.high) <= 0
			if span.Inside(a, b) != want {
				t.Errorf("Inside of %s and %s is %v", spell(a), spell(b), !want)
			}
		}
	}
	for name, bad := range badSpans() {
		for _, s := range append(spans(), bad, of("-1e90", "1e90")) {
			if span.Inside(bad, s) || span.Inside(s, bad) {
				t.Errorf("%s: Inside with %s", name, spell(s))
			}
		}
	}
}

func TestWidth(t *testing.T) {
	for _, s := range spans() {
		want := new(exact.Rat).Sub(value(s.High), value(s.Low))
		if got := span.Width(s); !identical(got, from(want)) {
			t.Errorf("Width of %s is %s", spell(s), frac.Text(got))
		}
	}
	for name, s := range badSpans() {
		if got := span.Width(s); !identical(got, api.Frac{}) {
			t.Errorf("%s: Width is %v", name, got)
		}
	}
}

// P10.2

func TestNeg(t *testing.T) {
	for _, s := range spans() {
		is(t, "Neg of "+spell(s), span.Neg(s), api.OK, bounds{new(exact.Rat).Neg(value(s.High)), new(exact.Rat).Neg(value(s.Low))})
	}
	for name, s := range badSpans() {
		if got := span.Neg(s); !twin(got, api.Span{}) {
			t.Errorf("%s: Neg is %v", name, got)
		}
	}
}

// P10.3

// operations are the functions of two spans that return an error.
func operations() map[string]func(a, b api.Span) (api.Span, api.Errno) {
	return map[string]func(a, b api.Span) (api.Span, api.Errno){"Add": span.Add, "Sub": span.Sub, "Mul": span.Mul, "Div": span.Div, "Min": span.Min, "Max": span.Max, "Hull": span.Hull}
}

func plus(x, y *exact.Rat) *exact.Rat  { return new(exact.Rat).Add(x, y) }
func minus(x, y *exact.Rat) *exact.Rat { return new(exact.Rat).Sub(x, y) }
func times(x, y *exact.Rat) *exact.Rat { return new(exact.Rat).Mul(x, y) }

// lesser and greater return one of two values.
func lesser(x, y *exact.Rat) *exact.Rat {
	if x.Cmp(y) < 0 {
		return x
	}
	return y
}

func greater(x, y *exact.Rat) *exact.Rat {
	if x.Cmp(y) > 0 {
		return x
	}
	return y
}

// productOf is the range of the products of two intervals: where both contain values of both signs, two products compete for each end; otherwise the signs decide.
func productOf(a, b bounds) bounds {
	switch {
	case a.high.Sign() <= 0 && a.low.Sign() < 0:
		x := productOf(bounds{new(exact.Rat).Neg(a.high), new(exact.Rat).Neg(a.low)}, b)
		return bounds{new(exact.Rat).Neg(x.high), new(exact.Rat).Neg(x.low)}
	case a.low.Sign() < 0 && b.low.Sign() < 0 && b.high.Sign() > 0:
		return bounds{lesser(times(a.low, b.high), times(a.high, b.low)), greater(times(a.low, b.low), times(a.high, b.high))}
	case a.low.Sign() < 0 && b.low.Sign() >= 0:
		return bounds{times(a.low, b.high), times(a.high, b.high)}
	case a.low.Sign() < 0:
		return bounds{times(a.high, b.low), times(a.low, b.low)}
	case b.low.Sign() >= 0:
		return bounds{times(a.low, b.low), times(a.high, b.high)}
	case b.high.Sign() <= 0:
		return bounds{times(a.high, b.low), times(a.low, b.high)}
	}
	return bounds{times(a.high, b.low), times(a.high, b.high)}
}

// ranges returns the ranges of the results of all operations but Div on two intervals, and the interval of Hull.
func ranges(a, b bounds) map[string]bounds {
	return map[string]bounds{
		"Add":  {plus(a.low, b.low), plus(a.high, b.high)},
		"Sub":  {minus(a.low, b.high), minus(a.high, b.low)},
		"Mul":  productOf(a, b),
		"Min":  {lesser(a.low, b.low), lesser(a.high, b.high)},
		"Max":  {greater(a.low, b.low), greater(a.high, b.high)},
		"Hull": {lesser(a.low, b.low), greater(a.high, b.high)},
	}
}

// checkOperations checks all operations on two valid spans against calculations of the standard library.
func checkOperations(t *testing.T, a, b api.Span) {
	t.Helper()
	x, y := interval(a), interval(b)
	want := ranges(x, y)
	if y.low.Sign()*y.high.Sign() > 0 {
		want["Div"] = productOf(x, bounds{new(exact.Rat).Inv(y.high), new(exact.Rat).Inv(y.low)})
	}
	for name, operate := range operations() {
		got, e := operate(a, b)
		if w, ok := want[name]; ok {
			is(t, name+" of "+spell(a)+" and "+spell(b), got, e, w)
			continue
		}
		fails(t, name+" of "+spell(a)+" and "+spell(b), got, e, api.ErrDivide)
	}
	meet, ok := span.Meet(a, b)
	low, high := greater(x.low, y.low), lesser(x.high, y.high)
	switch {
	case low.Cmp(high) > 0:
		if ok || !twin(meet, api.Span{}) {
			t.Errorf("Meet of %s and %s is %v and %v", spell(a), spell(b), meet, ok)
		}
	case !ok:
		t.Errorf("Meet of %s and %s is false", spell(a), spell(b))
	default:
		is(t, "Meet of "+spell(a)+" and "+spell(b), meet, api.OK, bounds{low, high})
	}
}

func TestOperations(t *testing.T) {
	for _, a := range few() {
		for _, b := range spans() {
			checkOperations(t, a, b)
		}
	}
}

func TestExamples(t *testing.T) {
	for _, c := range []struct{ name, low, high, from, to, least, greatest string }{
		{"Add", "1", "2", "3", "5", "4", "7"}, {"Sub", "1", "2", "3", "5", "-4", "-1"},
		{"Mul", "-1", "2", "3", "5", "-5", "10"}, {"Mul", "-1", "2", "-3", "4", "-6", "8"},
		{"Div", "1", "2", "-4", "-2", "-1", "-1/4"}, {"Div", "1", "2", "0", "1", "", ""},
		{"Min", "1", "5", "2", "3", "1", "3"}, {"Max", "1", "5", "2", "3", "2", "5"},
		{"Hull", "1", "2", "4", "5", "1", "5"},
		{"Div", "-1", "2", "2", "4", "-1/2", "1"}, {"Div", "0", "0", "-3", "-1", "0", "0"}, {"Mul", "0", "0", "-3", "7", "0", "0"}, {"Mul", "-4", "-2", "-1/2", "-1/3", "2/3", "2"}, {"Mul", "-3", "1", "-4", "5", "-15", "12"}, {"Sub", "1", "2", "1", "2", "-1", "1"}, {"Div", "1", "2", "1", "2", "1/2", "2"},
	} {
		a, b := of(c.low, c.high), of(c.from, c.to)
		got, e := operations()[c.name](a, b)
		if c.least == "" {
			fails(t, c.name, got, e, api.ErrDivide)
			continue
		}
		is(t, c.name+" of "+spell(a)+" and "+spell(b), got, e, bounds{rational(c.least), rational(c.greatest)})
	}
}

// A divisor may contain 0 inside, or as an end, or be 0.
func TestDivByZero(t *testing.T) {
	for _, b := range []api.Span{of("0", "0"), of("0", "1"), of("-1", "0"), of("-1", "1"), of("-1e-30", "1e-30"), of("0", "1e-30"), of("-1e-30", "0"), of("-7e40", "1/3")} {
		for _, a := range append(spans(), b) {
			got, e := span.Div(a, b)
			fails(t, "Div by "+spell(b), got, e, api.ErrDivide)
		}
	}
	for _, b := range []api.Span{of("1e-30", "1e-30"), of("1e-30", "1"), of("-1", "-1e-30")} {
		if _, e := span.Div(of("0", "1"), b); e != api.OK {
			t.Errorf("Div by %s is %d", spell(b), e)
		}
	}
}

// P10.3 and P10.4, and P2: ErrArg comes before ErrDivide.
func TestOperationsOnWhatIsNotValid(t *testing.T) {
	for name, bad := range badSpans() {
		for _, s := range []api.Span{of("1", "2"), of("-1/3", "1/2"), of("0", "0"), of("-7e40", "-7e40"), of("-1e90", "1e90"), {}, {Low: frac.Int(1)}, {High: frac.Int(1)}, bad} {
			for which, operate := range operations() {
				got, e := operate(bad, s)
				fails(t, which+" of "+name+" and "+spell(s), got, e, api.ErrArg)
				got, e = operate(s, bad)
				fails(t, which+" of "+spell(s)+" and "+name, got, e, api.ErrArg)
			}
			for _, p := range [][2]api.Span{{bad, s}, {s, bad}} {
				if got, ok := span.Meet(p[0], p[1]); ok || !twin(got, api.Span{}) {
					t.Errorf("Meet of %s and %s is %v and %v", name, spell(s), got, ok)
				}
			}
		}
	}
}

// P10.4

func TestMeet(t *testing.T) {
	for _, c := range [][6]string{
		{"1", "4", "4", "5", "4", "4"}, {"1", "4", "2", "3", "2", "3"}, {"1", "4", "2", "7", "2", "4"}, {"-1", "-1/3", "-1/3", "0", "-1/3", "-1/3"}, {"2", "2", "2", "2", "2", "2"}, {"-5", "5", "0", "0", "0", "0"},
		{"1", "2", "4", "5", "", ""}, {"1", "2", "2000000000000000000001/1000000000000000000000", "5", "", ""}, {"2", "2", "3", "3", "", ""}, {"-2", "-1", "1", "2", "", ""},
	} {
		a, b := of(c[0], c[1]), of(c[2], c[3])
		var want api.Span
		if c[4] != "" {
			want = of(c[4], c[5])
		}
		for _, p := range [][2]api.Span{{a, b}, {b, a}} {
			if got, ok := span.Meet(p[0], p[1]); ok != (c[4] != "") || !twin(got, want) {
				t.Errorf("Meet of %s and %s is %v and %v", spell(p[0]), spell(p[1]), got, ok)
			}
		}
	}
}

// P6: calculations never fail for lack of room.
func TestLargeSpans(t *testing.T) {
	for _, p := range [][4]string{{"1e1000", "7e1000", "-3e-1000", "1e-1000"}, {"-1e700", "1e-700", "-7e700", "2e-700"}, {"-2e900", "-1e900", "1e-900", "1"}} {
		checkOperations(t, of(p[0], p[1]), of(p[2], p[3]))
		checkOperations(t, of(p[2], p[3]), of(p[0], p[1]))
	}
}

// P10.5, and the rules P3, P4 and P5

// answers are the results of all functions: spans, the width, and all others.
func answers(a, b api.Span, f api.Frac) ([]api.Span, api.Frac, []any) {
	l := []api.Span{span.Point(f), span.Neg(a)}
	rest := []any{span.Right(a), span.Same(a, b), span.Has(a, f), span.Inside(a, b)}
	all := operations()
	for _, name := range []string{"Add", "Sub", "Mul", "Div", "Min", "Max", "Hull"} {
		s, e := all[name](a, b)
		l, rest = append(l, s), append(rest, e)
	}
	s, ok := span.Meet(a, b)
	return append(l, s), span.Width(a), append(rest, ok)
}

// cases calls f with spans and fractions, valid or not.
func cases(f func(a, b api.Span, x api.Frac)) {
	bad, badNumbers := badSpans(), badFractions()
	l := append(few(), bad["2 to 1"], bad["0 to a last digit of 0"], bad["2/4 to itself"], bad["1/2 to 2/4"])
	fs := append(fractions(), badNumbers["1/-2"], badNumbers["a digit of 2^20"])
	for i, a := range l {
		for k, b := range l {
			f(a, b, fs[(7*i+k)%len(fs)])
		}
	}
}

// withRoom returns a copy of a fraction whose digits lie in longer slices, and these slices.
func withRoom(f api.Frac) (api.Frac, [][]int) {
	p, q := append(slices.Clone(f.P.Digits), -7, -8, -9), append(slices.Clone(f.Q.Digits), -7, -8, -9)
	f.P.Digits, f.Q.Digits = p[:len(f.P.Digits)], q[:len(f.Q.Digits)]
	return f, [][]int{p, q}
}

// bothWithRoom returns copies of arguments whose digits lie in longer slices, and these slices.
func bothWithRoom(a, b api.Span, f api.Frac) (api.Span, api.Span, api.Frac, [][]int) {
	var memory [][]int
	for _, x := range []*api.Frac{&a.Low, &a.High, &b.Low, &b.High, &f} {
		var m [][]int
		*x, m = withRoom(*x)
		memory = append(memory, m...)
	}
	return a, b, f, memory
}

// parts returns the digits of the numerators and denominators of results.
func parts(l []api.Span, f api.Frac) [][]int {
	digits := [][]int{f.P.Digits, f.Q.Digits}
	for _, s := range l {
		digits = append(digits, s.Low.P.Digits, s.Low.Q.Digits, s.High.P.Digits, s.High.Q.Digits)
	}
	return digits
}

// copies returns copies of slices.
func copies(l [][]int) (c [][]int) {
	for _, s := range l {
		c = append(c, slices.Clone(s))
	}
	return c
}

// fill gives each element of a slice a value, also those beyond its length.
func fill(s []int, n int) {
	s = s[:cap(s)]
	for i := range s {
		s[i] = n
	}
}

// full reports whether all elements of a slice have a value, also those beyond its length.
func full(s []int, n int) bool {
	return !slices.ContainsFunc(s[:cap(s)], func(d int) bool { return d != n })
}

func TestResultsShareNoMemory(t *testing.T) {
	cases(func(a, b api.Span, f api.Frac) {
		a, b, f, memory := bothWithRoom(a, b, f)
		before := copies(memory)
		l, width, _ := answers(a, b, f)
		if !slices.EqualFunc(memory, before, slices.Equal[[]int]) {
			t.Errorf("%s, %s or %s has changed", spell(a), spell(b), frac.Text(f))
		}
		slots := parts(l, width)
		before = copies(slots)
		for _, m := range memory {
			fill(m, -1)
		}
		if !slices.EqualFunc(slots, before, slices.Equal[[]int]) {
			t.Error("a result shares memory with an argument")
		}
		for i, slot := range slots {
			fill(slot, i)
		}
		for i, slot := range slots {
			if !full(slot, i) {
				t.Error("two results, or the ends of one, share memory")
			}
		}
		for _, m := range memory {
			if !full(m, -1) {
				t.Error("a result shares memory with an argument")
			}
		}
	})
}

// Results depend on the arguments alone: not on what was done with earlier results, nor on where arguments lie.
func TestTheSameCallsReturnTheSame(t *testing.T) {
	cases(func(a, b api.Span, f api.Frac) {
		spoilt, width, others := answers(a, b, f)
		before := copies(parts(spoilt, width))
		var signs, signsAgain []int
		for _, s := range spoilt {
			signs = append(signs, s.Low.P.Sign, s.Low.Q.Sign, s.High.P.Sign, s.High.Q.Sign)
		}
		for _, slot := range parts(spoilt, width) {
			fill(slot, 5)
		}
		a, b, f, _ = bothWithRoom(a, b, f)
		again, widthAgain, othersAgain := answers(a, b, f)
		for _, s := range again {
			signsAgain = append(signsAgain, s.Low.P.Sign, s.Low.Q.Sign, s.High.P.Sign, s.High.Q.Sign)
		}
		if !slices.EqualFunc(parts(again, widthAgain), before, slices.Equal[[]int]) || !slices.Equal(others, othersAgain) || !slices.Equal(signs, signsAgain) {
			t.Errorf("other results for %s, %s and %s", spell(a), spell(b), frac.Text(f))
		}
	})
}

// One span, or even one fraction, may be all arguments.
func TestOneSpanTwice(t *testing.T) {
	for _, s := range spans() {
		before := copies(parts([]api.Span{s}, s.Low))
		checkOperations(t, s, s)
		if !span.Same(s, s) || !span.Inside(s, s) || !span.Has(s, s.Low) || !span.Has(s, s.High) {
			t.Errorf("%s and itself", spell(s))
		}
		one := api.Span{Low: s.Low, High: s.Low}
		checkOperations(t, one, one)
		if !slices.EqualFunc(parts([]api.Span{s}, s.Low), before, slices.Equal[[]int]) {
			t.Errorf("%s has changed", spell(s))
		}
	}
}

// P1: all functions return for all arguments. Nothing but the validity of the arguments, and whether a divisor contains 0, decides what is an error.
func TestAllArguments(t *testing.T) {
	var integers []api.Big
	for _, sign := range []int{-1, 0, 1, 2, math.MinInt, math.MaxInt} {
		integers = append(integers, api.Big{Sign: sign})
		for _, d := range []int{0, 1, 2, 1<<20 - 1, 1 << 20, -1, math.MinInt, math.MaxInt} {
			integers = append(integers, api.Big{Sign: sign, Digits: []int{d}}, api.Big{Sign: sign, Digits: []int{3, 0, d}})
		}
	}
	var fs []api.Frac
	for _, p := range integers {
		for _, q := range integers {
			fs = append(fs, api.Frac{P: p, Q: q})
		}
	}
	fs = append(fs, fractions()...)
	right := func(s api.Span) bool {
		return frac.Right(s.Low) && frac.Right(s.High) && value(s.Low).Cmp(value(s.High)) <= 0
	}
	for i, f := range fs {
		a := api.Span{Low: f, High: fs[(31*i+7)%len(fs)]}
		for _, s := range []api.Span{a, {Low: f, High: f}, {Low: f, High: written("1e60")}, {Low: written("-1e60"), High: f}} {
			if span.Right(s) != right(s) {
				t.Fatalf("Right of %v is %v", s, span.Right(s))
			}
			for _, b := range []api.Span{s, a, {Low: f, High: f}, of("1/2", "3"), of("-1", "0"), {}} {
				want := api.OK
				if !right(s) || !right(b) {
					want = api.ErrArg
				}
				l, _, others := answers(s, b, f)
				for k, e := range others[4:11] {
					if divide := k == 3 && want == api.OK && value(b.Low).Sign()*value(b.High).Sign() <= 0; divide && e != api.ErrDivide || !divide && e != want || right(l[2+k]) != (e == api.OK) {
						t.Fatalf("operation %d of %v and %v returns %d", k, s, b, e)
					}
				}
			}
		}
	}
}
