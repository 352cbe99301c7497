package dim_test

import (
	"math"
	"strings"
	"testing"

	"kitbag/api"
	"kitbag/dim"
)

const most = 9 // the greatest exponent

// wild are ints that are no exponents; some are 0 or small in fewer bits.
var wild = []int{most + 1, -most - 1, most + 2, 18, -18, 100, -100, 256, 1 << 16, 1<<16 + 1, 1 << 31, -1 << 31, 1 << 32, 1<<32 + 1, 1 << 62, -1 << 62, math.MaxInt, math.MaxInt - most, math.MinInt, math.MinInt + most, math.MinInt + 1}

// broken returns dimensions that are not valid: one exponent or all of them are wild.
func broken() []api.Dim {
	var l []api.Dim
	for _, n := range wild {
		for i := range api.Bases {
			one, other := api.Dim{}, api.Dim{1, -2, 3, -4, 5, most}
			one[i], other[i] = n, n
			l = append(l, one, other)
		}
		l = append(l, api.Dim{n, n, n, n, n, n})
	}
	return l
}

// some are valid dimensions.
var some = []api.Dim{{}, {1}, {0, 1}, {0, 0, 0, 0, 0, 1}, {-1}, {0, 0, 0, 0, 0, -1}, {1, 2, -2}, {-1, 7, 2, 0, 1}, {0, -3, -1}, {0, 0, 0, 1, 0, -1}, {-1, 0, 0, 0, 1}, {most}, {-most}, {most, -most, most, -most, most, -most}, {most, most, most, most, most, most}, {-most, -most, -most, -most, -most, -most}, {0, 0, 0, 0, 4, -4}, {1, 1, 1, 1, 1, 1}, {5, 0, -5, 4, 0, -4}}

// mul checks that Mul returns a dimension, and Div the way back.
func mul(t *testing.T, a, b, want api.Dim) {
	t.Helper()
	if d, e := dim.Mul(a, b); d != want || e != api.OK {
		t.Errorf("Mul of %v and %v is %v and %d, want %v", a, b, d, e, want)
	}
	div(t, want, b, a)
}

// div checks that Div returns a dimension.
func div(t *testing.T, a, b, want api.Dim) {
	t.Helper()
	if d, e := dim.Div(a, b); d != want || e != api.OK {
		t.Errorf("Div of %v and %v is %v and %d, want %v", a, b, d, e, want)
	}
}

// pow checks that Pow returns a dimension.
func pow(t *testing.T, d api.Dim, n int, want api.Dim) {
	t.Helper()
	if p, e := dim.Pow(d, n); p != want || e != api.OK {
		t.Errorf("Pow of %v and %d is %v and %d, want %v", d, n, p, e, want)
	}
}

// fails checks that a function has returned the bare dimension and an error.
func fails(t *testing.T, what string, args any, d api.Dim, e, want api.Errno) {
	t.Helper()
	if d != (api.Dim{}) || e != want {
		t.Errorf("%s of %v is %v and %d, want the bare dimension and %d", what, args, d, e, want)
	}
}

// hasText checks that a dimension has a string, and the string this dimension.
func hasText(t *testing.T, d api.Dim, want string) {
	t.Helper()
	if s := dim.Text(d); s != want {
		t.Errorf("Text of %v is %q, want %q", d, s, want)
	}
	if r, ok := dim.Read(want); r != d || !ok {
		t.Errorf("Read of %q is %v and %v, want %v", want, r, ok, d)
	}
}

// hasNoDim checks that a string is that of no dimension.
func hasNoDim(t *testing.T, s string) {
	t.Helper()
	if d, ok := dim.Read(s); d != (api.Dim{}) || ok {
		t.Errorf("Read of %.40q is %v and %v, want the bare dimension and false", s, d, ok)
	}
}

// P8.1

func TestValidDimensions(t *testing.T) {
	for _, d := range some {
		if !dim.Right(d) {
			t.Errorf("%v is not valid", d)
		}
	}
	for i := range api.Bases {
		for n := -most; n <= most; n++ {
			one, other := api.Dim{}, api.Dim{1, -2, 3, -4, 5, most}
			one[i], other[i] = n, n
			if !dim.Right(one) || !dim.Right(other) {
				t.Errorf("%v or %v is not valid", one, other)
			}
		}
	}
}

func TestInvalidDimensions(t *testing.T) {
	for _, d := range broken() {
		if dim.Right(d) {
			t.Errorf("%v is valid", d)
		}
	}
}

// P8.2

func TestProductsAndQuotients(t *testing.T) {
	mul(t, api.Dim{}, api.Dim{}, api.Dim{})
	mul(t, api.Dim{1}, api.Dim{1}, api.Dim{2})
	mul(t, api.Dim{1}, api.Dim{-1}, api.Dim{})
	mul(t, api.Dim{1, 2, -2}, api.Dim{-1, 7, 2, 0, 1}, api.Dim{0, 9, 0, 0, 1})
	mul(t, api.Dim{1, 2, 3, 4, 5, 6}, api.Dim{-6, -5, -4, 3, 2, 1}, api.Dim{-5, -3, -1, 7, 7, 7})
	mul(t, api.Dim{most, 0, 0, 0, 0, -most}, api.Dim{-most, 0, 0, 0, 0, most}, api.Dim{})
	mul(t, api.Dim{-most, -8}, api.Dim{0, -1}, api.Dim{-most, -most})
	div(t, api.Dim{0, 1}, api.Dim{0, 0, 1}, api.Dim{0, 1, -1})
	div(t, api.Dim{-1, 0, 0, 0, 1}, api.Dim{-1, 0, 0, 0, 1}, api.Dim{})
	div(t, api.Dim{}, api.Dim{1, -2, 3, -4, 5, -6}, api.Dim{-1, 2, -3, 4, -5, 6})
	div(t, api.Dim{}, api.Dim{most, -most}, api.Dim{-most, most})
	div(t, api.Dim{4, -4}, api.Dim{-5, 5}, api.Dim{most, -most})
}

// Each pair of exponents, at each base dimension: the result has the sum and the difference there, or is out of range.
func TestProductsAndQuotientsOfAllExponents(t *testing.T) {
	for i := range api.Bases {
		for n := -most; n <= most; n++ {
			for m := -most; m <= most; m++ {
				var a, b, sum, difference api.Dim
				a[i], b[i], sum[i], difference[i] = n, m, n+m, n-m
				if -most <= n+m && n+m <= most {
					mul(t, a, b, sum)
				} else {
					d, e := dim.Mul(a, b)
					fails(t, "Mul", []api.Dim{a, b}, d, e, api.ErrRange)
				}
				if -most <= n-m && n-m <= most {
					div(t, a, b, difference)
				} else {
					d, e := dim.Div(a, b)
					fails(t, "Div", []api.Dim{a, b}, d, e, api.ErrRange)
				}
			}
		}
	}
}

// One exponent is out of range, the others are not.
func TestProductsAndQuotientsOutOfRange(t *testing.T) {
	for i := range api.Bases {
		for _, n := range []int{most, -most} {
			a, b := api.Dim{1, -1, 2, -2, 3, -3}, api.Dim{1, 1, 1, 1, 1, 1}
			a[i], b[i] = n, n/most
			d, e := dim.Mul(a, b)
			fails(t, "Mul", []api.Dim{a, b}, d, e, api.ErrRange)
			b[i] = -n / most
			d, e = dim.Div(a, b)
			fails(t, "Div", []api.Dim{a, b}, d, e, api.ErrRange)
		}
	}
}

func TestPowers(t *testing.T) {
	speed := api.Dim{0, 1, -1}
	pow(t, speed, 3, api.Dim{0, 3, -3})
	pow(t, speed, 9, api.Dim{0, 9, -9})
	pow(t, speed, -9, api.Dim{0, -9, 9})
	pow(t, speed, 1, speed)
	pow(t, speed, 0, api.Dim{})
	pow(t, speed, -1, api.Dim{0, -1, 1})
	pow(t, api.Dim{1, -2, 3, -4, 0, 4}, 2, api.Dim{2, -4, 6, -8, 0, 8})
	pow(t, api.Dim{1, -2, 3, -4, 0, 4}, -2, api.Dim{-2, 4, -6, 8, 0, -8})
	pow(t, api.Dim{most, -most, most, -most, most, -most}, -1, api.Dim{-most, most, -most, most, -most, most})
	pow(t, api.Dim{most, -most, most, -most, most, -most}, 0, api.Dim{})
	pow(t, api.Dim{}, -1000, api.Dim{})
	d, e := dim.Pow(speed, 10)
	fails(t, "Pow", "m/s and 10", d, e, api.ErrRange)
}

func TestPowersOfAllExponents(t *testing.T) {
	for i := range api.Bases {
		for n := -most; n <= most; n++ {
			for m := -2 * most; m <= 2*most; m++ {
				var d, want api.Dim
				d[i], want[i] = n, n*m
				if -most <= n*m && n*m <= most {
					pow(t, d, m, want)
					continue
				}
				p, e := dim.Pow(d, m)
				fails(t, "Pow", []any{d, m}, p, e, api.ErrRange)
			}
		}
	}
}

// greatPowers are exponents of Pow whose products with an exponent of a dimension are small if they wrap around.
func greatPowers() []int {
	l := append([]int{}, wild...)
	for shift := range 64 {
		l = append(l, 1<<shift+most, -1<<shift-most)
	}
	for _, n := range []uint64{1, 3, 5, 7, 9} {
		inverse := n // of n, which is odd, modulo 2 to the 64
		for range 6 {
			inverse *= 2 - n*inverse
		}
		for m := uint64(1); m <= most; m++ {
			l = append(l, int(inverse*m), -int(inverse*m))
		}
	}
	return l
}

func TestPowersAreExact(t *testing.T) {
	for _, n := range greatPowers() {
		pow(t, api.Dim{}, n, api.Dim{})
		if -most <= n && n <= most {
			continue // 1 is its own inverse
		}
		for i := range api.Bases {
			for m := 1; m <= most; m++ {
				d := api.Dim{}
				d[i] = m
				p, e := dim.Pow(d, n)
				fails(t, "Pow", []any{d, n}, p, e, api.ErrRange)
				d[i] = -m
				p, e = dim.Pow(d, n)
				fails(t, "Pow", []any{d, n}, p, e, api.ErrRange)
			}
		}
	}
}

// Only the last exponent that is not 0 is out of range, or only the first one.
func TestPowersOutOfRange(t *testing.T) {
	for _, d := range []api.Dim{{1, 1, 1, 1, 1, 5}, {5, 1, 1, 1, 1, 1}, {0, 0, -5, 1}, {1, 0, 0, -5}, {-5, -5, -5, -5, -5, -5}} {
		for _, n := range []int{2, -2} {
			p, e := dim.Pow(d, n)
			fails(t, "Pow", []any{d, n}, p, e, api.ErrRange)
		}
	}
}

// ErrArg comes before ErrRange, and also where the result would be valid.
func TestArgumentsThatAreNotValid(t *testing.T) {
	for _, d := range broken() {
		for _, ok := range some {
			for _, args := range [][2]api.Dim{{d, ok}, {ok, d}, {d, d}} {
				r, e := dim.Mul(args[0], args[1])
				fails(t, "Mul", args, r, e, api.ErrArg)
				r, e = dim.Div(args[0], args[1])
				fails(t, "Div", args, r, e, api.ErrArg)
			}
		}
		var opposite api.Dim
		for i, n := range d {
			opposite[i] = -n
		}
		r, e := dim.Mul(d, opposite)
		fails(t, "Mul", []api.Dim{d, opposite}, r, e, api.ErrArg)
		for _, n := range []int{0, 1, -1, 2, 10, math.MaxInt, math.MinInt} {
			r, e := dim.Pow(d, n)
			fails(t, "Pow", []any{d, n}, r, e, api.ErrArg)
		}
	}
}

// P8.3

func TestStringsOfDimensions(t *testing.T) {
	hasText(t, api.Dim{}, "1")
	for i, s := range []string{"g", "m", "s", "J", "cent", "pc"} {
		for n, digit := range []string{"", "2", "3", "4", "5", "6", "7", "8", "9"} {
			var d api.Dim
			d[i] = n + 1
			hasText(t, d, s+digit)
			d[i] = -n - 1
			hasText(t, d, "1/"+s+digit)
		}
	}
	hasText(t, api.Dim{1, 2, -2}, "g*m2/s2")
	hasText(t, api.Dim{0, 0, -1}, "1/s")
	hasText(t, api.Dim{0, -3, -1}, "1/m3/s")
	hasText(t, api.Dim{0, 0, 0, 1, 0, -1}, "J/pc")
	hasText(t, api.Dim{-1, 0, 0, 0, 0, 1}, "pc/g")
	hasText(t, api.Dim{0, 1, -1}, "m/s")
	hasText(t, api.Dim{-1, 0, 0, 0, 1}, "cent/g")
	hasText(t, api.Dim{1, 1, 1, 1, 1, 1}, "g*m*s*J*cent*pc")
	hasText(t, api.Dim{-1, -1, -1, -1, -1, -1}, "1/g/m/s/J/cent/pc")
	hasText(t, api.Dim{9, 9, 9, 9, 9, 9}, "g9*m9*s9*J9*cent9*pc9")
	hasText(t, api.Dim{-9, -9, -9, -9, -9, -9}, "1/g9/m9/s9/J9/cent9/pc9")
	hasText(t, api.Dim{-9, -9, -9, -9, -9, -1}, "1/g9/m9/s9/J9/cent9/pc")
	hasText(t, api.Dim{-9, 9, -9, 9, -9, 9}, "m9*J9*pc9/g9/s9/cent9")
	hasText(t, api.Dim{9, -9, 9, -9, 9, -9}, "g9*s9*cent9/m9/J9/pc9")
	hasText(t, api.Dim{2, -2, 1, -1, 3, -4}, "g2*s*cent3/m2/J/pc4")
}

func TestInvalidDimensionsHaveNoString(t *testing.T) {
	for _, d := range broken() {
		if s := dim.Text(d); s != "" {
			t.Errorf("Text of %v is %q", d, s)
		}
	}
}

func TestStringsOfNoDimension(t *testing.T) {
	for _, s := range []string{
		"", " ", "0", "2", "11", "-1", "+1", "1.0", "x", "G", "M", "S", "j", "c", "ce", "cen", "Cent", "cents", "p", "PC", "pcs", "kg", "gg", "gm", "ms", "gcent", "_",
		"s*g", "m*g", "pc*g", "pc*cent", "cent*J", "J*s", "s*m", "J*g*m", "1/s/g", "1/pc/g", "1/m2/g", "g/s/m", "g*s*m", // the order
		"g*g", "g*g2", "g2*g", "1/g/g", "1/g2/g", "g/g", "g2/g", "g/g2", "g*m/g", "m/s/m", "g3/g", "g*m*m/s", // a base dimension twice
		"g1", "g0", "g-1", "g+1", "g+2", "g-2", "g02", "g2_", "g10", "g11", "g19", "g99", "g2.0", "g 2", "g\x002", "g\u0662", "1/g1", "1/g0", "1/g-1", "m/s-2", "m/s+2", "m/s0", "m/s1", "m/s10", "g9223372036854775807", "g9223372036854775808", "g-9223372036854775808", "1/g-9223372036854775808", "g18446744073709551617", "g4294967297", "1/g18446744073709551617", // the exponent
		"1*g", "g*1", "g*1*m", "g/1", "1/1", "1/1/g", "g/1/m", "1/g/1", "1g", "12", "1m2", "1/", "1//g", "/", "//", "/g", "*", "*g", "g*", "g/", "g//m", "g**m", "g*/m", "g/*m", "g*m*", "g*m/", "g*m/s/", "1/g*m", "g/m*s", "1*", "1/*g", "*1", "/1", "g/m/", // the signs
		" g", "g ", "g\n", "\tg", "g\t", "g * m", "g *m", "g* m", "g /m", "g/ m", "1 /g", "g\x00", "\x00", "g\xff", "\xff", "g\u00b2", "g^2", "g*m2/s2 ", "g.m", "g,m", "g:m", "(g)", "\"g\"", "g\u2044m", "g\u00d7m",
		"1/g9/m9/s9/J9/cent9/pc9/", "1/g9/m9/s9/J9/cent9/pc99", "1/g9/m9/s9/J9/cent9/pc9/g", "1/g9/m9/s9/J9/cent9/p", // the length
	} {
		hasNoDim(t, s)
	}
}

// P1: also very long strings, and those of a great many parts.
func TestLongStrings(t *testing.T) {
	for _, part := range []string{"/", "*", "g", "1", "g*", "*g", "/g", "1/", "m2/", "*1", "9", "\x00", "cent"} {
		for _, n := range []int{2, 3, 10, 24, 25, 1000, 1 << 21} {
			s := strings.Repeat(part, n)
			hasNoDim(t, s)
			hasNoDim(t, "g"+s)
			hasNoDim(t, "1/s"+s)
		}
	}
}

// P8.4, and the rule P4.

// answers is what all functions return for two dimensions, a number and a string.
type answers struct {
	right                       bool
	product, quotient, power, d api.Dim
	eMul, eDiv, ePow            api.Errno
	text                        string
	ok                          bool
}

func ask(a, b api.Dim, n int, s string) (r answers) {
	r.right = dim.Right(a)
	r.product, r.eMul = dim.Mul(a, b)
	r.quotient, r.eDiv = dim.Div(a, b)
	r.power, r.ePow = dim.Pow(a, n)
	r.text = dim.Text(a)
	r.d, r.ok = dim.Read(s)
	return r
}

func TestResultsDependOnArgumentsOnly(t *testing.T) {
	dims := append(append([]api.Dim{}, some...), broken()[:20]...)
	strs := []string{"1", "g*m2/s2", "s*g", "", "J/pc", "1/g9", "g10"}
	type question struct{ a, b, n, s int }
	known := map[question]answers{}
	at := func(i int) question {
		return question{i % len(dims), i / len(dims) % len(dims), i%5 - 2, i % len(strs)}
	}
	get := func(q question) answers { return ask(dims[q.a], dims[q.b], q.n, strs[q.s]) }
	for i := range len(dims) * len(dims) {
		known[at(i)] = get(at(i))
	}
	for i := range 3 * len(dims) * len(dims) { // in another order
		q := at(i * 7 % (len(dims) * len(dims)))
		if r := get(q); r != known[q] {
			t.Errorf("for %v the results are %v, and before %v", q, r, known[q])
		}
	}
}
