package span_test

import (
	exact "math/big"
	"math/rand/v2"
	"testing"

	"kitbag/api"
	"kitbag/frac"
	"kitbag/span"
)

// random returns a valid fraction; many are small, or integers, or 0.
func random(r *rand.Rand) api.Frac {
	switch r.IntN(4) {
	case 0:
		return frac.Int(r.IntN(9) - 4)
	case 1:
		return from(exact.NewRat(int64(r.IntN(61)-30), int64(r.IntN(12)+1)))
	case 2:
		return from(exact.NewRat(r.Int64()-1<<62, r.Int64()+1))
	}
	p, q := new(exact.Int).SetUint64(r.Uint64()), new(exact.Int).SetUint64(r.Uint64()|1)
	p.Mul(p, new(exact.Int).SetUint64(r.Uint64()))
	if r.IntN(2) == 0 {
		p.Neg(p)
	}
	return from(new(exact.Rat).SetFrac(p, q))
}

// between returns a random valid span; some are points.
func between(r *rand.Rand) api.Span {
	a, b := random(r), random(r)
	switch c := frac.Compare(a, b); {
	case r.IntN(8) == 0:
		return api.Span{Low: a, High: a}
	case c > 0:
		return api.Span{Low: b, High: a}
	}
	return api.Span{Low: a, High: b}
}

// part returns a random fraction that a valid span contains; often it is an end, or 0.
func part(r *rand.Rand, s api.Span) api.Frac {
	n := int64(r.IntN(6))
	if r.IntN(4) == 0 && value(s.Low).Sign() < 0 && value(s.High).Sign() > 0 {
		return frac.Int(0)
	}
	width := minus(value(s.High), value(s.Low))
	return from(plus(value(s.Low), times(width, exact.NewRat(n, 5))))
}

// within returns a random span that lies in a valid one.
func within(r *rand.Rand, s api.Span) api.Span {
	a, b := part(r, s), part(r, s)
	if frac.Compare(a, b) > 0 {
		a, b = b, a
	}
	return api.Span{Low: a, High: b}
}

// good returns the result of an operation that must succeed.
func good(t *testing.T, operate func(a, b api.Span) (api.Span, api.Errno), a, b api.Span) api.Span {
	t.Helper()
	s, e := operate(a, b)
	if e != api.OK || !span.Right(s) {
		t.Fatalf("an operation on %s and %s is %v and %d", spell(a), spell(b), s, e)
	}
	return s
}

// agree checks that two spans are the same.
func agree(t *testing.T, law string, a, b api.Span) {
	t.Helper()
	if !span.Same(a, b) {
		t.Errorf("%s: %s and %s", law, spell(a), spell(b))
	}
}

// lies checks that a lies in b.
func lies(t *testing.T, law string, a, b api.Span) {
	t.Helper()
	if !span.Inside(a, b) {
		t.Errorf("%s: %s and %s", law, spell(a), spell(b))
	}
}

// everyThree calls f with many triples of valid spans.
func everyThree(f func(a, b, c api.Span)) {
	l := few()
	for i, a := range l {
		for k, b := range l {
			f(a, b, l[(7*i+k+i*k)%len(l)])
		}
	}
	r := rand.New(rand.NewPCG(10, 1))
	for range 3000 {
		f(between(r), between(r), between(r))
	}
}

// P10.3: the operations on random spans.
func TestManyOperations(t *testing.T) {
	r := rand.New(rand.NewPCG(10, 2))
	for range 5000 {
		checkOperations(t, between(r), between(r))
	}
}

// calculations are the operations on fractions that correspond to those on spans.
func calculations() map[string]func(x, y api.Frac) (api.Frac, api.Errno) {
	return map[string]func(x, y api.Frac) (api.Frac, api.Errno){"Add": frac.Add, "Sub": frac.Sub, "Mul": frac.Mul, "Div": frac.Div, "Min": frac.Min, "Max": frac.Max}
}

// P10.6

// checkPoint checks that the result of an operation on two points is the point of the calculation, and lies in the result on the spans.
func checkPoint(t *testing.T, name string, x, y api.Frac, s api.Span) {
	t.Helper()
	f, e := calculations()[name](x, y)
	p := good(t, operations()[name], span.Point(x), span.Point(y))
	if e != api.OK || !span.Same(p, span.Point(f)) || !span.Has(s, f) || !span.Inside(p, s) {
		t.Errorf("%s of %s and %s is %s, and %s is not it, or not in %s", name, frac.Text(x), frac.Text(y), frac.Text(f), spell(p), spell(s))
	}
}

// checkEnds checks that both ends of a result are results of the calculation with ends of both spans.
func checkEnds(t *testing.T, name string, a, b, s api.Span) {
	t.Helper()
	low, high := false, false
	for _, x := range []api.Frac{a.Low, a.High} {
		for _, y := range []api.Frac{b.Low, b.High} {
			f, _ := calculations()[name](x, y)
			low, high = low || frac.Same(f, s.Low), high || frac.Same(f, s.High)
		}
	}
	if !low || !high {
		t.Errorf("%s of %s and %s is %s, the ends of which are no results of ends", name, spell(a), spell(b), spell(s))
	}
}

func TestResultsOnPoints(t *testing.T) {
	r := rand.New(rand.NewPCG(10, 3))
	checked := map[string]int{}
	everyThree(func(a, b, _ api.Span) {
		points := [][2]api.Frac{{a.Low, b.High}, {part(r, a), part(r, b)}, {part(r, a), part(r, b)}}
		for name := range calculations() {
			s, e := operations()[name](a, b)
			if e != api.OK {
				continue // a divisor that contains 0
			}
			checked[name]++
			checkEnds(t, name, a, b, s)
			for _, p := range points {
				checkPoint(t, name, p[0], p[1], s)
			}
		}
		hull := good(t, span.Hull, a, b)
		lies(t, "Hull of points", good(t, span.Hull, span.Point(part(r, a)), span.Point(part(r, b))), hull)
	})
	for name := range calculations() {
		if checked[name] < 1000 {
			t.Errorf("%s was checked only %d times", name, checked[name])
		}
	}
}

// P10.7

func TestOperationsAreMonotonic(t *testing.T) {
	r := rand.New(rand.NewPCG(10, 4))
	checked, met := map[string]int{}, 0
	everyThree(func(c, d, _ api.Span) {
		a, b := within(r, c), within(r, d)
		for name, operate := range operations() {
			small, e := operate(a, b)
			large, f := operate(c, d)
			if e != api.OK || f != api.OK {
				if name != "Div" {
					t.Errorf("%s of %s and %s: %d, or of %s and %s: %d", name, spell(a), spell(b), e, spell(c), spell(d), f)
				}
				continue
			}
			checked[name]++
			lies(t, name, small, large)
		}
		lies(t, "Neg", span.Neg(a), span.Neg(c))
		if small, ok := span.Meet(a, b); ok {
			large, ok := span.Meet(c, d)
			if !ok {
				t.Errorf("Meet of %s and %s is false", spell(c), spell(d))
			}
			met++
			lies(t, "Meet", small, large)
		}
	})
	for name := range operations() {
		if checked[name] < 1000 {
			t.Errorf("%s was checked only %d times", name, checked[name])
		}
	}
	if met < 500 {
		t.Errorf("Meet was checked only %d times", met)
	}
}

// P10.8

func TestAlgebra(t *testing.T) {
	everyThree(func(a, b, c api.Span) {
		for _, name := range []string{"Add", "Mul", "Min", "Max", "Hull"} {
			operate := operations()[name]
			agree(t, name+" is commutative", good(t, operate, a, b), good(t, operate, b, a))
			agree(t, name+" is associative", good(t, operate, good(t, operate, a, b), c), good(t, operate, a, good(t, operate, b, c)))
		}
		agree(t, "Sub is Add of Neg", good(t, span.Sub, a, b), good(t, span.Add, a, span.Neg(b)))
		agree(t, "Neg is its own inverse", span.Neg(span.Neg(a)), a)
		whole := good(t, span.Mul, a, good(t, span.Add, b, c))
		lies(t, "Mul is subdistributive", whole, good(t, span.Add, good(t, span.Mul, a, b), good(t, span.Mul, a, c)))
	})
}

// The product of a span and a sum need not be the sum of the products.
func TestMulIsNotDistributive(t *testing.T) {
	a, b, c := of("1", "2"), of("1", "1"), of("-1", "-1")
	whole := good(t, span.Mul, a, good(t, span.Add, b, c))
	parts := good(t, span.Add, good(t, span.Mul, a, b), good(t, span.Mul, a, c))
	agree(t, "1 to 2 times 0", whole, of("0", "0"))
	agree(t, "1 to 2, and -2 to -1", parts, of("-1", "1"))
}

// P10.9

func TestWidths(t *testing.T) {
	everyThree(func(a, b, _ api.Span) {
		want, _ := frac.Add(span.Width(a), span.Width(b))
		for _, name := range []string{"Add", "Sub"} {
			if got := span.Width(good(t, operations()[name], a, b)); !frac.Same(got, want) {
				t.Errorf("the width of %s of %s and %s is %s", name, spell(a), spell(b), frac.Text(got))
			}
		}
	})
}

func TestUndoing(t *testing.T) {
	divided := 0
	everyThree(func(a, b, _ api.Span) {
		lies(t, "a + b - b", a, good(t, span.Sub, good(t, span.Add, a, b), b))
		lies(t, "a - b + b", a, good(t, span.Add, good(t, span.Sub, a, b), b))
		s, e := span.Div(good(t, span.Mul, a, b), b)
		if zero := span.Has(b, frac.Int(0)); zero != (e == api.ErrDivide) || !zero && e != api.OK {
			t.Errorf("Div by %s is %d", spell(b), e)
		}
		if e != api.OK {
			return
		}
		divided++
		lies(t, "a * b / b", a, s)
		lies(t, "a / b * b", a, good(t, span.Mul, good(t, span.Div, a, b), b))
	})
	if divided < 1000 {
		t.Errorf("only %d products were divided", divided)
	}
}

// P10.10

func TestHullIsTheLeastUpperBound(t *testing.T) {
	above := 0
	everyThree(func(a, b, c api.Span) {
		hull := good(t, span.Hull, a, b)
		lies(t, "a lies in the hull", a, hull)
		lies(t, "b lies in the hull", b, hull)
		if span.Inside(a, c) && span.Inside(b, c) {
			above++
			lies(t, "the hull lies in every span in which both lie", hull, c)
		}
		if span.Inside(a, b) {
			agree(t, "the hull of a and a span in which it lies", hull, b)
		}
	})
	if above < 50 {
		t.Errorf("only %d spans in which both lie", above)
	}
}

func TestMeetIsTheGreatestLowerBound(t *testing.T) {
	r := rand.New(rand.NewPCG(10, 5))
	below, empty := 0, 0
	everyThree(func(a, b, c api.Span) {
		meet, ok := span.Meet(a, b)
		again, okAgain := span.Meet(b, a)
		if ok != okAgain || !span.Same(meet, again) {
			t.Errorf("Meet of %s and %s: %s and %s", spell(a), spell(b), spell(meet), spell(again))
		}
		if !ok {
			empty++
		} else {
			lies(t, "the meet lies in a", meet, a)
			lies(t, "the meet lies in b", meet, b)
		}
		for _, s := range []api.Span{c, within(r, a), within(r, b), span.Point(part(r, a)), span.Point(b.Low), span.Point(b.High)} {
			both := span.Inside(s, a) && span.Inside(s, b)
			if both {
				below++
			}
			if both != (ok && span.Inside(s, meet)) {
				t.Errorf("%s, and Meet of %s and %s, which is %s", spell(s), spell(a), spell(b), spell(meet))
			}
		}
		if span.Inside(a, b) {
			agree(t, "the meet of a and a span in which it lies", meet, a)
		}
	})
	if below < 1000 || empty < 500 {
		t.Errorf("only %d spans that lie in both, and %d empty meets", below, empty)
	}
}
