package frac_test

import (
	exact "math/big"
	"math/rand/v2"
	"testing"

	"kitbag/api"
	"kitbag/big"
	"kitbag/frac"
)

// digits returns a positive big integer with at most n digits, of which many are the least or the greatest ones.
func digits(r *rand.Rand, n int) api.Big {
	a := api.Big{Sign: 1}
	for range r.IntN(n) + 1 {
		d := r.IntN(most + 1)
		switch r.IntN(6) {
		case 0:
			d = 0
		case 1:
			d = most
		case 2:
			d = r.IntN(12)
		}
		a.Digits = append(a.Digits, d)
	}
	a.Digits[len(a.Digits)-1] = max(1, a.Digits[len(a.Digits)-1])
	return a
}

// random returns a valid fraction of integers with at most n digits; many are small, or integers.
func random(r *rand.Rand, n int) api.Frac {
	if r.IntN(3) == 0 {
		return from(exact.NewRat(int64(r.IntN(41)-20), int64(r.IntN(12)+1)))
	}
	p, q := integer(digits(r, n)), integer(digits(r, n))
	if r.IntN(4) == 0 {
		q = exact.NewInt(1)
	}
	if r.IntN(2) == 0 {
		p.Neg(p)
	}
	return from(new(exact.Rat).SetFrac(p, q))
}

// always returns an operation that must succeed with a valid result.
func always(of func(a, b api.Frac) (api.Frac, api.Errno)) func(t *testing.T, a, b api.Frac) api.Frac {
	return func(t *testing.T, a, b api.Frac) api.Frac {
		t.Helper()
		c, e := of(a, b)
		if e != api.OK || !frac.Right(c) || !right(c) {
			t.Fatalf("an operation of %v and %v is %v and %d", value(a), value(b), c, e)
		}
		return c
	}
}

var (
	sum        = always(frac.Add)
	difference = always(frac.Sub)
	product    = always(frac.Mul)
	ratio      = always(frac.Div)
	lesser     = always(frac.Min)
	greater    = always(frac.Max)
)

func same(t *testing.T, what string, a, b api.Frac) {
	t.Helper()
	if !frac.Same(a, b) {
		t.Errorf("%s: %v and %v", what, value(a), value(b))
	}
}

// everyThree calls f with many triples of valid fractions.
func everyThree(f func(a, b, c api.Frac)) {
	l := fractions()
	for i, a := range l {
		for k, b := range l {
			f(a, b, l[(7*i+k)%len(l)])
		}
	}
	r := rand.New(rand.NewPCG(5, 1))
	for range 3000 {
		f(random(r, 5), random(r, 5), random(r, 5))
	}
}

// P5.2: the operations of many fractions against calculations of the standard library.

func TestManyOperations(t *testing.T) {
	r := rand.New(rand.NewPCG(5, 2))
	for range 10000 {
		checkOperations(t, random(r, 6), random(r, 4))
	}
	for range 200 {
		checkOperations(t, random(r, 60), random(r, 60))
	}
}

// Fractions with common divisors of every kind: of the denominators, across, and only in the results.
func TestOperationsWithCommonDivisors(t *testing.T) {
	r := rand.New(rand.NewPCG(5, 3))
	for range 3000 {
		g, h := integer(digits(r, 3)), integer(digits(r, 3))
		p, q, s, u := integer(digits(r, 2)), integer(digits(r, 2)), integer(digits(r, 2)), integer(digits(r, 2))
		of := func(a, b, c, d *exact.Int) api.Frac {
			return from(new(exact.Rat).SetFrac(new(exact.Int).Mul(a, b), new(exact.Int).Mul(c, d)))
		}
		checkOperations(t, of(p, h, q, g), of(s, h, u, g))
		checkOperations(t, of(p, h, q, g), of(s, g, u, h))
		checkOperations(t, of(p, g, q, h), frac.Neg(of(p, g, q, h)))
	}
}

// P6: no fraction is too large.
func TestLargeFractions(t *testing.T) {
	a := api.Big{Sign: -1, Digits: make([]int, 1500)}
	b := api.Big{Sign: 1, Digits: make([]int, 1200)}
	r := rand.New(rand.NewPCG(5, 4))
	for i := range a.Digits {
		a.Digits[i] = r.IntN(most) + 1
	}
	for i := range b.Digits {
		b.Digits[i] = r.IntN(most) + 1
	}
	f, e := frac.New(a, b)
	check(t, "New of large integers", f, e, new(exact.Rat).SetFrac(integer(a), integer(b)))
	checkOperations(t, f, frac.Int(3))
	checkOperations(t, written("2/3"), f)
	checkOperations(t, f, f)
	if s := value(f).String(); frac.Text(f) != s || !equal(frac.Floor(f), long(floor(value(f)))) {
		t.Error("a long text, or Floor")
	}
	power := from(new(exact.Rat).SetInt(new(exact.Int).Lsh(exact.NewInt(1), 1200)))
	checkOperations(t, power, power)
	checkOperations(t, ratio(t, frac.Int(1), power), power)
}

// P5.6

func TestField(t *testing.T) {
	everyThree(func(a, b, c api.Frac) {
		same(t, "a + b = b + a", sum(t, a, b), sum(t, b, a))
		same(t, "a b = b a", product(t, a, b), product(t, b, a))
		same(t, "(a + b) + c = a + (b + c)", sum(t, sum(t, a, b), c), sum(t, a, sum(t, b, c)))
		same(t, "(a b) c = a (b c)", product(t, product(t, a, b), c), product(t, a, product(t, b, c)))
		same(t, "a (b + c) = a b + a c", product(t, a, sum(t, b, c)), sum(t, product(t, a, b), product(t, a, c)))
		same(t, "a + 0 = a", sum(t, a, frac.Int(0)), a)
		same(t, "1 a = a", product(t, frac.Int(1), a), a)
		same(t, "a + b - b = a", difference(t, sum(t, a, b), b), a)
		same(t, "a - b + b = a", sum(t, difference(t, a, b), b), a)
		if frac.Sign(b) != 0 {
			same(t, "a b / b = a", ratio(t, product(t, a, b), b), a)
			same(t, "(a / b) b = a", product(t, ratio(t, a, b), b), a)
		}
	})
}

// P5.7

func TestOrder(t *testing.T) {
	everyThree(func(a, b, c api.Frac) {
		order := frac.Compare(a, b)
		if frac.Compare(b, a) != -order || (order == 0) != frac.Same(a, b) || frac.Sign(difference(t, a, b)) != order {
			t.Errorf("the order of %v and %v", value(a), value(b))
		}
		if order <= 0 && frac.Compare(b, c) <= 0 && frac.Compare(a, c) > 0 {
			t.Errorf("the order of %v, %v and %v", value(a), value(b), value(c))
		}
		if frac.Compare(sum(t, a, c), sum(t, b, c)) != order {
			t.Errorf("adding %v does not preserve the order of %v and %v", value(c), value(a), value(b))
		}
		if frac.Compare(product(t, a, c), product(t, b, c)) != order*frac.Sign(c) {
			t.Errorf("multiplication by %v: the order of %v and %v", value(c), value(a), value(b))
		}
		if frac.Compare(frac.Neg(a), frac.Neg(b)) != -order {
			t.Errorf("Neg does not reverse the order of %v and %v", value(a), value(b))
		}
		same(t, "-a = 0 - a", frac.Neg(a), difference(t, frac.Int(0), a))
		same(t, "-(-a) = a", frac.Neg(frac.Neg(a)), a)
		low, high := lesser(t, a, b), greater(t, a, b)
		if !frac.Same(low, a) && !frac.Same(low, b) || !frac.Same(high, a) && !frac.Same(high, b) || frac.Compare(low, high) > 0 {
			t.Errorf("Min and Max of %v and %v are %v and %v", value(a), value(b), value(low), value(high))
		}
		same(t, "Min + Max = a + b", sum(t, low, high), sum(t, a, b))
	})
}

// P5.8

func TestReadOfText(t *testing.T) {
	r := rand.New(rand.NewPCG(5, 5))
	l := fractions()
	for range 3000 {
		l = append(l, random(r, 9))
	}
	for _, f := range l {
		s := frac.Text(f)
		g, e := frac.Read(s)
		if e != api.OK || s != value(f).String() {
			t.Errorf("Text of %v is %s, and Read of it returns %d", value(f), s, e)
		}
		same(t, "Read of Text", g, f)
	}
}

func TestTheSameFactorAboveAndBelow(t *testing.T) {
	r := rand.New(rand.NewPCG(5, 6))
	for range 3000 {
		f := random(r, 6)
		n := integer(digits(r, 4))
		if r.IntN(2) == 0 {
			n.Neg(n)
		}
		p, q := n.Mul(n, integer(f.P)), new(exact.Int)
		if f.P.Sign == 0 {
			q.SetInt64(-12345678901234567)
		} else {
			q.Mul(q.Quo(p, integer(f.P)), integer(f.Q))
		}
		g, e := frac.New(long(p), long(q))
		check(t, "the same factor above and below", g, e, value(f))
	}
	for n := -50; n <= 50; n++ {
		g, e := frac.Of(-3*n, 7*n)
		if n == 0 {
			refused(t, "Of(0, 0)", g, e, api.ErrDivide)
			continue
		}
		check(t, "the same factor above and below", g, e, exact.NewRat(-3, 7))
	}
}

func TestFloorIsTheGreatestInteger(t *testing.T) {
	everyThree(func(f, _, _ api.Frac) {
		n := frac.Floor(f)
		whole, e := frac.New(n, big.Of(1))
		if e != api.OK || !big.Right(n) || frac.Compare(whole, f) > 0 || frac.Compare(sum(t, whole, frac.Int(1)), f) <= 0 {
			t.Errorf("Floor of %v is %v", value(f), integer(n))
		}
	})
}
