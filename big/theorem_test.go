package big_test

import (
	"math"
	exact "math/big"
	"math/rand/v2"
	"strconv"
	"testing"

	"kitbag/api"
	"kitbag/big"
)

// random returns a big integer with at most n digits, of which many are the least or the greatest ones.
func random(r *rand.Rand, n int) api.Big {
	var digits []int
	for range r.IntN(n + 1) {
		d := r.IntN(most + 1)
		switch r.IntN(8) {
		case 0, 1:
			d = 0
		case 2, 3:
			d = most
		case 4:
			d = r.IntN(3)
		case 5:
			d = most - r.IntN(3)
		}
		digits = append(digits, d)
	}
	n = len(digits)
	if n == 0 {
		return api.Big{}
	}
	if digits[n-1] == 0 {
		digits[n-1] = 1
	}
	return number(1-2*r.IntN(2), digits...)
}

// always returns an operation that must succeed.
func always(of func(a, b api.Big) (api.Big, api.Errno)) func(t *testing.T, a, b api.Big) api.Big {
	return func(t *testing.T, a, b api.Big) api.Big {
		t.Helper()
		c, e := of(a, b)
		if e != api.OK || !big.Right(c) {
			t.Fatalf("an operation of %v and %v is %v and %d", value(a), value(b), c, e)
		}
		return c
	}
}

var (
	sum        = always(big.Add)
	difference = always(big.Sub)
	product    = always(big.Mul)
	divisor    = always(big.Gcd)
	remainder  = always(func(a, b api.Big) (api.Big, api.Errno) { _, r, e := big.Div(a, b); return r, e })
)

func same(t *testing.T, what string, a, b api.Big) {
	t.Helper()
	if !big.Same(a, b) {
		t.Errorf("%s: %v and %v", what, value(a), value(b))
	}
}

// P4.2: the operations of many numbers against calculations of the standard library.

func TestManyOperations(t *testing.T) {
	r := rand.New(rand.NewPCG(4, 2))
	for range 30000 {
		checkOperations(t, random(r, 9), random(r, 6))
	}
	for range 300 {
		checkOperations(t, random(r, 120), random(r, 120))
	}
}

// Quotients whose digits are the least and the greatest ones, and remainders that are nearly 0 or nearly the divisor.
func TestDivisionsThatJustFit(t *testing.T) {
	r := rand.New(rand.NewPCG(4, 3))
	for range 20000 {
		b, q := random(r, 6), random(r, 4)
		if b.Sign == 0 {
			continue
		}
		exactly := product(t, q, b)
		for _, d := range []int{-1, 0, 1} {
			checkOperations(t, sum(t, exactly, big.Of(d)), b)
		}
	}
}

// An estimate of a digit of a quotient from the highest digits is wrong where the others matter.
func TestDivisionsWhereLowDigitsMatter(t *testing.T) {
	for _, high := range []int{1, 2, most/2 + 1, most} {
		for _, next := range []int{0, 1, most} {
			b := number(1, most, most, next, high)
			for _, q := range []api.Big{number(1, 1), number(1, most), number(1, 0, 1), number(1, most, most), number(1, most-1, 0, most)} {
				p := product(t, q, b)
				checkOperations(t, p, b)
				checkOperations(t, difference(t, p, big.Of(1)), b)
				checkOperations(t, sum(t, p, difference(t, b, big.Of(1))), b)
			}
		}
	}
}

func TestGcdOfCommonMultiples(t *testing.T) {
	r := rand.New(rand.NewPCG(4, 4))
	for range 10000 {
		g, a, b := random(r, 8), random(r, 8), random(r, 8)
		x, y := product(t, g, a), product(t, g, b)
		check(t, "Gcd of multiples", divisor(t, x, y), api.OK, operations["Gcd"].want(value(x), value(y)))
	}
}

// Neighbouring numbers of Fibonacci make the most steps; those with other quotients mix short and long ones.
func TestGcdOfNumbersWithChosenQuotients(t *testing.T) {
	r := rand.New(rand.NewPCG(4, 5))
	for _, most := range []int{1, 2, 10, 1 << 10, 1 << 20, 1 << 29, 1 << 30, 1 << 40, 1 << 60, math.MaxInt} {
		for range 40 {
			g := random(r, 5)
			x, y := g, api.Big{}
			for i := range 200 {
				q := r.IntN(most) + 1
				if i%50 == 0 {
					q = math.MaxInt
				}
				x, y = sum(t, product(t, big.Of(q), x), y), x
				if i%20 == 0 {
					check(t, "Gcd of "+strconv.Itoa(i)+" steps", divisor(t, x, y), api.OK, absolute(value(g)))
					check(t, "Gcd of "+strconv.Itoa(i)+" steps", divisor(t, big.Neg(y), x), api.OK, absolute(value(g)))
				}
			}
		}
	}
}

// Numbers that agree in all their high digits, or whose high digits say nothing of the quotient.
func TestGcdOfCloseNumbers(t *testing.T) {
	r := rand.New(rand.NewPCG(4, 6))
	for range 3000 {
		a, b, c := random(r, 12), random(r, 12), random(r, 4)
		power := from(new(exact.Int).Lsh(exact.NewInt(1), uint(r.IntN(300))))
		for _, p := range [][2]api.Big{{a, sum(t, a, c)}, {power, sum(t, power, c)}, {product(t, power, c), sum(t, power, c)}, {product(t, a, c), a}, {sum(t, product(t, a, b), c), a}} {
			check(t, "Gcd of close numbers", divisor(t, p[0], p[1]), api.OK, operations["Gcd"].want(value(p[0]), value(p[1])))
		}
	}
}

// P6: no number is too large.
func TestLargeNumbers(t *testing.T) {
	r := rand.New(rand.NewPCG(4, 7))
	long := func(n int) api.Big {
		a := api.Big{Sign: 1, Digits: make([]int, n)}
		for i := range a.Digits {
			a.Digits[i] = r.IntN(most) + 1
		}
		return a
	}
	a, b, g := long(5000), long(3000), long(100)
	a, b = product(t, a, g), product(t, b, g)
	checkOperations(t, a, b)
	checkOperations(t, number(1, append(make([]int, 20000), 1)...), number(-1, 3))
	if s := value(b).String(); big.Text(b) != s || !big.Same(written(t, s), b) {
		t.Error("a long text")
	}
}

// P4.5

// checkRing checks the laws of an ordered commutative ring for three numbers.
func checkRing(t *testing.T, a, b, c api.Big) {
	t.Helper()
	same(t, "a + b = b + a", sum(t, a, b), sum(t, b, a))
	same(t, "a b = b a", product(t, a, b), product(t, b, a))
	same(t, "(a + b) + c = a + (b + c)", sum(t, sum(t, a, b), c), sum(t, a, sum(t, b, c)))
	same(t, "(a b) c = a (b c)", product(t, product(t, a, b), c), product(t, a, product(t, b, c)))
	same(t, "a (b + c) = a b + a c", product(t, a, sum(t, b, c)), sum(t, product(t, a, b), product(t, a, c)))
	same(t, "(a - b) + b = a", sum(t, difference(t, a, b), b), a)
	same(t, "a + 0 = a", sum(t, a, big.Of(0)), a)
	same(t, "1 a = a", product(t, big.Of(1), a), a)
	same(t, "a + -a = 0", sum(t, a, big.Neg(a)), big.Of(0))
	same(t, "a - b = a + -b", difference(t, a, b), sum(t, a, big.Neg(b)))
	order := big.Compare(a, b)
	if big.Compare(b, a) != -order || (order == 0) != big.Same(a, b) || difference(t, a, b).Sign != order {
		t.Errorf("the order of %v and %v", value(a), value(b))
	}
	if order <= 0 && big.Compare(b, c) <= 0 && big.Compare(a, c) > 0 {
		t.Errorf("the order of %v, %v and %v", value(a), value(b), value(c))
	}
	if big.Compare(sum(t, a, c), sum(t, b, c)) != order {
		t.Errorf("adding %v does not preserve the order of %v and %v", value(c), value(a), value(b))
	}
	if big.Compare(product(t, a, c), product(t, b, c)) != order*c.Sign {
		t.Errorf("multiplication by %v: the order of %v and %v", value(c), value(a), value(b))
	}
}

func TestRing(t *testing.T) {
	l := numbers()
	for i, a := range l {
		for k, b := range l {
			checkRing(t, a, b, l[(7*i+k)%len(l)])
		}
	}
	r := rand.New(rand.NewPCG(4, 8))
	for range 5000 {
		checkRing(t, random(r, 8), random(r, 8), random(r, 8))
	}
}

// P4.6

func checkDivision(t *testing.T, a, b api.Big) {
	t.Helper()
	g := divisor(t, a, b)
	if g.Sign < 0 || g.Sign == 0 && a.Sign|b.Sign != 0 {
		t.Errorf("Gcd of %v and %v is %v", value(a), value(b), value(g))
	}
	if g.Sign != 0 {
		same(t, "the divisor divides a", remainder(t, a, g), big.Of(0))
		same(t, "the divisor divides b", remainder(t, b, g), big.Of(0))
	}
	same(t, "Gcd of b and a", divisor(t, b, a), g)
	same(t, "Gcd of a and -b", divisor(t, a, big.Neg(b)), g)
	if a.Sign != 0 {
		same(t, "Gcd of a and the remainder of b by a", divisor(t, a, remainder(t, b, a)), g)
	}
	if b.Sign == 0 {
		return
	}
	q, r, e := big.Div(a, b)
	if e != api.OK {
		t.Fatalf("Div of %v and %v returns %d", value(a), value(b), e)
	}
	same(t, "q b + r = a", sum(t, product(t, q, b), r), a)
	if r.Sign != 0 && r.Sign != b.Sign || absolute(value(r)).Cmp(absolute(value(b))) >= 0 {
		t.Errorf("the remainder of %v by %v is %v", value(a), value(b), value(r))
	}
}

func TestDivision(t *testing.T) {
	l := numbers()
	for _, a := range l {
		for _, b := range l {
			checkDivision(t, a, b)
		}
	}
	r := rand.New(rand.NewPCG(4, 9))
	for range 5000 {
		checkDivision(t, random(r, 12), random(r, 7))
	}
}

// P4.7

func TestReadOfText(t *testing.T) {
	r := rand.New(rand.NewPCG(4, 10))
	l := numbers()
	for range 5000 {
		l = append(l, random(r, 15))
	}
	for _, a := range l {
		s := big.Text(a)
		if s != value(a).String() {
			t.Errorf("Text of %v is %s", value(a), s)
		}
		b, e := big.Read(s)
		if e != api.OK {
			t.Errorf("Read of %s returns %d", s, e)
		}
		same(t, "Read of Text", b, a)
	}
}

// checkInt checks that an operation of two ints has an int as its result, unless it overflows.
func checkInt(t *testing.T, what string, n, m int, got api.Big, e api.Errno, want int, over bool) {
	t.Helper()
	k, is := big.Int(got)
	if e != api.OK || is == over || is && k != want {
		t.Errorf("%s of %d and %d is %v and %d, want %d", what, n, m, value(got), e, want)
	}
}

func checkInts(t *testing.T, n, m int) {
	t.Helper()
	a, b := big.Of(n), big.Of(m)
	s, e := big.Add(a, b)
	checkInt(t, "Add", n, m, s, e, n+m, (n+m > n) != (m > 0) && m != 0)
	s, e = big.Sub(a, b)
	checkInt(t, "Sub", n, m, s, e, n-m, (n-m < n) != (m > 0) && m != 0)
	s, e = big.Mul(a, b)
	checkInt(t, "Mul", n, m, s, e, n*m, m != 0 && (n*m/m != n || m == -1 && n == math.MinInt))
	if big.Compare(a, b) != big.Compare(big.Of(0), difference(t, b, a)) || (n < m) != (big.Compare(a, b) < 0) || (n == m) != big.Same(a, b) {
		t.Errorf("the order of %d and %d", n, m)
	}
	if big.Text(a) != strconv.Itoa(n) {
		t.Errorf("Text of %d is %s", n, big.Text(a))
	}
	if m == 0 {
		return
	}
	q, r, e := big.Div(a, b)
	quotient, rest := n/m, n%m
	if rest != 0 && (rest < 0) != (m < 0) {
		quotient, rest = quotient-1, rest+m
	}
	checkInt(t, "the quotient", n, m, q, e, quotient, n == math.MinInt && m == -1)
	checkInt(t, "the remainder", n, m, r, e, rest, false)
}

func TestOperationsOfInts(t *testing.T) {
	for _, n := range ints {
		for _, m := range ints {
			checkInts(t, n, m)
		}
	}
	for n := -40; n <= 40; n++ {
		for m := -40; m <= 40; m++ {
			checkInts(t, n, m)
		}
	}
	r := rand.New(rand.NewPCG(4, 11))
	for range 20000 {
		checkInts(t, int(r.Uint64())>>r.IntN(64), int(r.Uint64())>>r.IntN(64))
	}
}
