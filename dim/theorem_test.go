package dim_test

import (
	"math/rand/v2"
	"strconv"
	"testing"

	"kitbag/api"
	"kitbag/dim"
)

// spell returns the string of a valid dimension, by the words of the chapter.
func spell(d api.Dim) string {
	symbols := map[int]string{0: "g", 1: "m", 2: "s", 3: "J", 4: "cent", 5: "pc"}
	above, below := "", ""
	for i := range 6 {
		digit := ""
		if n := max(d[i], -d[i]); n != 1 {
			digit = strconv.Itoa(n)
		}
		switch {
		case d[i] > 0 && above == "":
			above = symbols[i] + digit
		case d[i] > 0:
			above += "*" + symbols[i] + digit
		case d[i] < 0:
			below += "/" + symbols[i] + digit
		}
	}
	if above == "" {
		above = "1"
	}
	return above + below
}

// visit calls f with all dimensions whose exponents are among some, of which at most a number are not 0.
func visit(exponents []int, notZero int, f func(d api.Dim)) {
	var d api.Dim
	var set func(i, left int)
	set = func(i, left int) {
		if i == len(d) {
			f(d)
			return
		}
		set(i+1, left)
		if left == 0 {
			return
		}
		for _, n := range exponents {
			d[i] = n
			set(i+1, left-1)
		}
		d[i] = 0
	}
	set(0, notZero)
}

// all are all exponents but 0.
var all = []int{-9, -8, -7, -6, -5, -4, -3, -2, -1, 1, 2, 3, 4, 5, 6, 7, 8, 9}

// anyDim returns a random valid dimension.
func anyDim(r *rand.Rand) (d api.Dim) {
	most := []int{1, 2, 4, 9}[r.IntN(4)]
	for i := range d {
		if r.IntN(3) > 0 {
			d[i] = r.IntN(2*most+1) - most
		}
	}
	return d
}

// P8.3 and P8.5

func TestStringsOfManyDimensions(t *testing.T) {
	visit(all, 3, func(d api.Dim) { hasText(t, d, spell(d)) })
	visit([]int{-9, -2, -1, 1, 2, 9}, 6, func(d api.Dim) { hasText(t, d, spell(d)) })
	r := rand.New(rand.NewPCG(8, 1))
	for range 100000 {
		d := anyDim(r)
		hasText(t, d, spell(d))
	}
}

// short returns the dimensions of at most three base dimensions, by their strings.
func short() map[string]api.Dim {
	known := map[string]api.Dim{}
	visit(all, 3, func(d api.Dim) { known[spell(d)] = d })
	return known
}

// checkRead checks that Read knows exactly the strings of dimensions.
func checkRead(t *testing.T, known map[string]api.Dim, s string) {
	t.Helper()
	want, found := known[s]
	if d, ok := dim.Read(s); d != want || ok != found {
		t.Errorf("Read of %q is %v and %v, want %v and %v", s, d, ok, want, found)
	}
}

// Six pieces are at most three base dimensions.
func TestAllStringsOfSixPieces(t *testing.T) {
	known := short()
	pieces := []string{"g", "m", "s", "J", "cent", "pc", "0", "1", "2", "*", "/"}
	var grow func(s string, left int)
	grow = func(s string, left int) {
		checkRead(t, known, s)
		if left == 0 {
			return
		}
		for _, p := range pieces {
			grow(s+p, left-1)
		}
	}
	grow("", 6)
}

// Each string of at most two base dimensions, with each byte changed, inserted or left out: it has at most three of them.
func TestChangedStrings(t *testing.T) {
	known := short()
	visit([]int{-9, -2, -1, 1, 2, 3}, 2, func(d api.Dim) {
		s := spell(d)
		for at := range len(s) + 1 {
			for c := range 256 {
				b := string([]byte{byte(c)})
				checkRead(t, known, s[:at]+b+s[at:])
				if at < len(s) {
					checkRead(t, known, s[:at]+b+s[at+1:])
				}
			}
			if at < len(s) {
				checkRead(t, known, s[:at]+s[at+1:])
			}
		}
	})
}

// Whatever Read accepts is the string of the dimension that it returns.
func TestNoOtherStringIsAccepted(t *testing.T) {
	r := rand.New(rand.NewPCG(8, 2))
	pieces := []string{"g", "m", "s", "J", "cent", "pc", "2", "9", "*", "/", "1", "g*", "m2", "/s", "/cent", "*pc", "/pc9", "J", "1/"}
	accepted := 0
	for range 1000000 {
		s := ""
		for range r.IntN(10) {
			s += pieces[r.IntN(len(pieces))]
		}
		d, ok := dim.Read(s)
		if !ok {
			if d != (api.Dim{}) {
				t.Errorf("Read of %q is %v and false", s, d)
			}
			continue
		}
		accepted++
		if !dim.Right(d) || spell(d) != s || dim.Text(d) != s {
			t.Errorf("Read of %q is %v, whose string is %q", s, d, spell(d))
		}
	}
	if accepted < 10000 {
		t.Errorf("only %d strings were accepted", accepted)
	}
}

// P8.2: the words of the chapter as a model.
func TestRandomProductsQuotientsAndPowers(t *testing.T) {
	r := rand.New(rand.NewPCG(8, 3))
	check := func(what string, args any, d api.Dim, e api.Errno, want api.Dim) {
		if !dim.Right(want) {
			fails(t, what, args, d, e, api.ErrRange)
		} else if d != want || e != api.OK {
			t.Errorf("%s of %v is %v and %d, want %v", what, args, d, e, want)
		}
	}
	for range 300000 {
		a, b, n := anyDim(r), anyDim(r), r.IntN(25)-12
		var sum, difference, multiple api.Dim
		for i := range a {
			sum[i], difference[i], multiple[i] = a[i]+b[i], a[i]-b[i], a[i]*n
		}
		d, e := dim.Mul(a, b)
		check("Mul", []api.Dim{a, b}, d, e, sum)
		d, e = dim.Div(a, b)
		check("Div", []api.Dim{a, b}, d, e, difference)
		d, e = dim.Pow(a, n)
		check("Pow", []any{a, n}, d, e, multiple)
	}
}

// P8.6

func TestMulIsCommutative(t *testing.T) {
	r := rand.New(rand.NewPCG(8, 4))
	for range 100000 {
		a, b := anyDim(r), anyDim(r)
		d, e := dim.Mul(a, b)
		if c, f := dim.Mul(b, a); c != d || f != e {
			t.Errorf("Mul of %v and %v is %v and %d, and the other way round %v and %d", a, b, d, e, c, f)
		}
	}
}

func TestMulIsAssociative(t *testing.T) {
	r := rand.New(rand.NewPCG(8, 5))
	compared := 0
	for range 100000 {
		a, b, c := anyDim(r), anyDim(r), anyDim(r)
		ab, e1 := dim.Mul(a, b)
		bc, e2 := dim.Mul(b, c)
		left, e3 := dim.Mul(ab, c)
		right, e4 := dim.Mul(a, bc)
		if e1 != api.OK || e2 != api.OK {
			continue
		}
		if left != right || e3 != e4 {
			t.Errorf("%v, %v and %v: Mul from the left is %v and %d, from the right %v and %d", a, b, c, left, e3, right, e4)
		}
		compared++
	}
	if compared < 10000 {
		t.Errorf("only %d products were compared", compared)
	}
}

func TestDivIsTheInverseOfMul(t *testing.T) {
	r := rand.New(rand.NewPCG(8, 6))
	compared := 0
	for range 100000 {
		a, b := anyDim(r), anyDim(r)
		if p, e := dim.Mul(a, b); e == api.OK {
			div(t, p, b, a)
			div(t, p, a, b)
			compared++
		}
		if q, e := dim.Div(a, b); e == api.OK {
			mul(t, q, b, a)
			compared++
		}
	}
	if compared < 10000 {
		t.Errorf("only %d results were compared", compared)
	}
}

func TestTheBareDimensionIsNeutral(t *testing.T) {
	visit([]int{-9, -1, 1, 9}, 6, func(d api.Dim) {
		mul(t, d, api.Dim{}, d)
		mul(t, api.Dim{}, d, d)
		div(t, d, d, api.Dim{})
	})
}

// P8.7

func TestPowOfASumIsTheProductOfThePowers(t *testing.T) {
	visit([]int{-9, -3, -1, 1, 2, 4}, 3, func(d api.Dim) {
		for n := -10; n <= 10; n++ {
			for m := -10; m <= 10; m++ {
				a, e1 := dim.Pow(d, n)
				b, e2 := dim.Pow(d, m)
				if e1 != api.OK || e2 != api.OK {
					continue
				}
				product, e := dim.Mul(a, b)
				if p, f := dim.Pow(d, n+m); p != product || f != e {
					t.Errorf("Pow of %v and %d is %v and %d; the product of those with %d and %d is %v and %d", d, n+m, p, f, n, m, product, e)
				}
			}
		}
	})
}

func TestPowOfAProductIsThePowerOfThePower(t *testing.T) {
	visit([]int{-9, -3, -1, 1, 2, 4}, 3, func(d api.Dim) {
		for n := -10; n <= 10; n++ {
			for m := -10; m <= 10; m++ {
				a, e := dim.Pow(d, n)
				if e != api.OK {
					continue
				}
				twice, e := dim.Pow(a, m)
				if p, f := dim.Pow(d, n*m); p != twice || f != e {
					t.Errorf("Pow of %v and %d is %v and %d; with %d, and then with %d, it is %v and %d", d, n*m, p, f, n, m, twice, e)
				}
			}
		}
	})
}

func TestPowWithNoughtAndOne(t *testing.T) {
	visit([]int{-9, -1, 1, 9}, 6, func(d api.Dim) {
		pow(t, d, 0, api.Dim{})
		pow(t, d, 1, d)
	})
}
