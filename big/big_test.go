package big_test

import (
	"math"
	exact "math/big"
	"slices"
	"strconv"
	"strings"
	"testing"

	"kitbag/api"
	"kitbag/big"
)

const most = 1<<20 - 1 // the greatest digit

// number returns a big integer with a sign and digits, the lowest one first.
func number(sign int, digits ...int) api.Big { return api.Big{Sign: sign, Digits: digits} }

// value returns the value of a big integer as the chapter defines it: the sum of its digits times powers of 2^20, times its sign.
func value(a api.Big) *exact.Int {
	sum := new(exact.Int)
	for i, d := range a.Digits {
		part := exact.NewInt(int64(d))
		sum.Add(sum, part.Lsh(part, uint(20*i)))
	}
	return sum.Mul(sum, exact.NewInt(int64(a.Sign)))
}

// from returns the valid big integer with a value.
func from(n *exact.Int) api.Big {
	a := api.Big{Sign: n.Sign()}
	rest := new(exact.Int).Abs(n)
	for rest.Sign() > 0 {
		a.Digits = append(a.Digits, int(rest.Uint64()%(1<<20)))
		rest.Rsh(rest, 20)
	}
	return a
}

// written returns the valid big integer that a text writes.
func written(t *testing.T, s string) api.Big {
	t.Helper()
	n, ok := new(exact.Int).SetString(s, 10)
	if !ok {
		t.Fatal(s)
	}
	return from(n)
}

// numbers returns valid big integers, in their order: limits of ints and of digits, and others.
func numbers() []api.Big {
	up := []api.Big{number(1, 1), number(1, 2), number(1, 6), number(1, 7), number(1, most-1), number(1, most)}
	for _, places := range []uint{1, 2, 3, 4, 5, 9} {
		one := new(exact.Int).Lsh(exact.NewInt(1), 20*places)
		for _, n := range []int64{-1, 0, 1, 999999} {
			up = append(up, from(new(exact.Int).Add(one, exact.NewInt(n))))
		}
	}
	for _, n := range []uint64{999_999_999_999, 1_000_000_000_000, math.MaxInt - 1, math.MaxInt, math.MaxInt + 1, math.MaxInt + 2, math.MaxUint64, 3 << 20, 1<<40 | most, 1<<62 + 12345} {
		up = append(up, from(new(exact.Int).SetUint64(n)))
	}
	for _, n := range []int64{3, 20, 30, 77} {
		up = append(up, from(new(exact.Int).Exp(exact.NewInt(10), exact.NewInt(n), nil)))
		up = append(up, from(new(exact.Int).MulRange(1, n)))
	}
	slices.SortFunc(up, func(a, b api.Big) int { return value(a).Cmp(value(b)) })
	up = slices.CompactFunc(up, func(a, b api.Big) bool { return value(a).Cmp(value(b)) == 0 })
	var l []api.Big
	for _, a := range slices.Backward(up) {
		l = append(l, number(-a.Sign, slices.Clone(a.Digits)...))
	}
	return append(append(l, api.Big{}), up...)
}

// invalid are big integers that are not valid, each for one reason the chapter names.
var invalid = map[string]api.Big{
	"a sign of 2":                  number(2, 1),
	"a sign of -2":                 number(-2, 1),
	"a sign of 2 without digits":   number(2),
	"the greatest sign":            number(math.MaxInt, 5, 1),
	"the least sign":               number(math.MinInt, 5, 1),
	"a sign without digits":        number(1),
	"a negative without digits":    number(-1),
	"digits without a sign":        number(0, 1),
	"a digit 0 without a sign":     number(0, 0),
	"a digit of 0":                 number(1, 0),
	"a last digit of 0":            number(1, 1, 0),
	"more last digits of 0":        number(-1, 5, 7, 0, 0),
	"digits of 0":                  number(1, 0, 0, 0),
	"a digit of -1":                number(1, -1),
	"a low digit of -1":            number(1, -1, 1),
	"a digit in between of -1":     number(-1, 1, -1, 1),
	"a high digit of -1":           number(1, 1, -1),
	"a digit of 2^20":              number(1, most+1),
	"a low digit of 2^20":          number(1, most+1, 1),
	"a high digit of 2^20":         number(-1, 1, 2, 3, most+1),
	"the greatest digit":           number(1, math.MaxInt, math.MaxInt, math.MaxInt),
	"the least digit":              number(1, math.MinInt, math.MinInt, math.MinInt),
	"a wrong digit after 4 others": number(1, 1, 0, 0, 0, -1),
}

// check checks that a result is the valid big integer with a value, and OK.
func check(t *testing.T, what string, got api.Big, e api.Errno, want *exact.Int) {
	t.Helper()
	w := from(want)
	if e != api.OK || got.Sign != w.Sign || !slices.Equal(got.Digits, w.Digits) {
		t.Errorf("%s is %v and %d, want %v", what, got, e, w)
	}
}

// zero reports whether a result is the zero value.
func zero(a api.Big) bool { return a.Sign == 0 && len(a.Digits) == 0 }

func absolute(n *exact.Int) *exact.Int { return new(exact.Int).Abs(n) }

// P4.1

func TestRight(t *testing.T) {
	for _, a := range append(numbers(), number(0), api.Big{Digits: []int{}}, api.Big{Digits: []int{1, 2}[:0]}) {
		if !big.Right(a) {
			t.Errorf("%v is not valid", a)
		}
	}
	for name, a := range invalid {
		if big.Right(a) {
			t.Errorf("%s: %v is valid", name, a)
		}
	}
	if !big.Right(number(1, slices.Repeat([]int{most}, 1000)...)) || big.Right(number(1, make([]int, 1000)...)) {
		t.Error("1000 digits")
	}
	// What is beyond the length does not count (P3).
	if digits := []int{1, 0, -1}; !big.Right(api.Big{Sign: 1, Digits: digits[:1]}) || big.Right(api.Big{Sign: 1, Digits: digits[:2]}) {
		t.Error("parts of a slice")
	}
}

var ints = []int{0, 1, -1, 2, -2, 7, -7, 12, 18, most, -most, most + 1, -most - 1, most + 2, 1 << 31, 1<<40 - 1, 1 << 40, -1 << 40, 1 << 60, 1<<60 - 1, -1 << 60, math.MaxInt, math.MaxInt - 1, math.MinInt, math.MinInt + 1}

func TestOf(t *testing.T) {
	for _, n := range ints {
		check(t, "Of of "+strconv.Itoa(n), big.Of(n), api.OK, exact.NewInt(int64(n)))
	}
	if a := big.Of(1048577); a.Sign != 1 || !slices.Equal(a.Digits, []int{1, 1}) {
		t.Error(a)
	}
}

func TestInt(t *testing.T) {
	for _, a := range numbers() {
		n, is := big.Int(a)
		v := value(a)
		if is != v.IsInt64() || is && n != int(v.Int64()) || !is && n != 0 {
			t.Errorf("Int of %v is %d, %v", v, n, is)
		}
	}
	for _, n := range ints {
		if m, is := big.Int(from(exact.NewInt(int64(n)))); m != n || !is {
			t.Errorf("Int of %d is %d, %v", n, m, is)
		}
	}
	for _, a := range []api.Big{
		number(1, 0, 0, 0, 8), number(-1, 1, 0, 0, 8), number(1, 0, 0, 0, 16), number(-1, 0, 0, 0, 16), number(1, 5, 0, 0, 16), number(1, 5, 0, 0, 0, 1),
		number(-1, 0, 0, 0, 8, 1), number(1, 5, 0, 0, 0, 0, 0, 0, 1), number(1, most, most, most, most), number(-1, slices.Repeat([]int{1}, 1000)...),
	} {
		if n, is := big.Int(a); n != 0 || is {
			t.Errorf("Int of %v is %d, %v", value(a), n, is)
		}
	}
	if n, is := big.Int(number(-1, 0, 0, 0, 8)); n != math.MinInt || !is {
		t.Error("the least int", n, is)
	}
	for name, a := range invalid {
		if n, is := big.Int(a); n != 0 || is {
			t.Errorf("%s: Int is %d, %v", name, n, is)
		}
	}
}

func TestCompare(t *testing.T) {
	l := numbers()
	for i, a := range l {
		for k, b := range l {
			want := 0
			if i < k {
				want = -1
			} else if i > k {
				want = 1
			}
			if got := big.Compare(a, b); got != want {
				t.Errorf("Compare of %v and %v is %d", value(a), value(b), got)
			}
		}
		for name, b := range invalid {
			if big.Compare(a, b) != 0 || big.Compare(b, a) != 0 || big.Compare(b, b) != 0 {
				t.Errorf("%s: Compare with %v is not 0", name, value(a))
			}
		}
	}
	if big.Compare(invalid["a sign of 2"], invalid["a digit of -1"]) != 0 {
		t.Error("Compare of two that are not valid")
	}
}

func TestSame(t *testing.T) {
	all := numbers()
	for _, a := range invalid {
		all = append(all, a)
	}
	for i, a := range all {
		for k, b := range all {
			if big.Same(a, number(b.Sign, slices.Clone(b.Digits)...)) != (i == k) {
				t.Errorf("Same of %v and %v is wrong", a, b)
			}
		}
	}
	for _, c := range []struct {
		a, b api.Big
		want bool
	}{
		{api.Big{}, api.Big{Digits: []int{}}, true}, // an empty slice may be nil or not (P5)
		{number(1), number(1), true},
		{number(1), number(0), false},
		{number(1, 5), number(-1, 5), false},
		{number(1, 5), number(2, 5), false},
		{number(1, 1), number(1, 1, 0), false},
		{number(1, 1, 2), number(1, 2, 1), false},
		{number(0, 1), number(0, 1), true},
		{number(1, 5, 6), api.Big{Sign: 1, Digits: []int{5, 6, 7}[:2]}, true},
	} {
		if big.Same(c.a, c.b) != c.want || big.Same(c.b, c.a) != c.want {
			t.Errorf("Same of %v and %v is not %v", c.a, c.b, c.want)
		}
	}
}

func TestNeg(t *testing.T) {
	for _, a := range numbers() {
		check(t, "Neg of "+value(a).String(), big.Neg(a), api.OK, new(exact.Int).Neg(value(a)))
	}
	for name, a := range invalid {
		if !zero(big.Neg(a)) {
			t.Errorf("%s: Neg is %v", name, big.Neg(a))
		}
	}
}

// P4.2

// operations are the four operations with one result.
var operations = map[string]struct {
	of   func(a, b api.Big) (api.Big, api.Errno)
	want func(a, b *exact.Int) *exact.Int
}{
	"Add": {big.Add, func(a, b *exact.Int) *exact.Int { return new(exact.Int).Add(a, b) }},
	"Sub": {big.Sub, func(a, b *exact.Int) *exact.Int { return new(exact.Int).Sub(a, b) }},
	"Mul": {big.Mul, func(a, b *exact.Int) *exact.Int { return new(exact.Int).Mul(a, b) }},
	"Gcd": {big.Gcd, func(a, b *exact.Int) *exact.Int {
		return new(exact.Int).GCD(nil, nil, absolute(a), absolute(b))
	}},
}

// floor returns the quotient, rounded down, and the remainder.
func floor(a, b *exact.Int) (*exact.Int, *exact.Int) {
	q, r := new(exact.Int).QuoRem(a, b, new(exact.Int))
	if r.Sign()*b.Sign() < 0 {
		q.Sub(q, exact.NewInt(1))
		r.Add(r, b)
	}
	return q, r
}

// checkOperations checks what all operations return for two valid big integers.
func checkOperations(t *testing.T, a, b api.Big) {
	t.Helper()
	x, y := value(a), value(b)
	of := func(name string) string { return name + " of " + x.String() + " and " + y.String() }
	for name, op := range operations {
		got, e := op.of(a, b)
		check(t, of(name), got, e, op.want(x, y))
	}
	q, r, e := big.Div(a, b)
	if y.Sign() == 0 {
		if e != api.ErrDivide || !zero(q) || !zero(r) {
			t.Errorf("%s is %v, %v and %d", of("Div"), q, r, e)
		}
		return
	}
	quotient, remainder := floor(x, y)
	check(t, of("the quotient"), q, e, quotient)
	check(t, of("the remainder"), r, e, remainder)
}

func TestOperations(t *testing.T) {
	l := numbers()
	for _, a := range l {
		for _, b := range l {
			checkOperations(t, a, b)
		}
	}
}

func TestOperationsOfWhatIsNotValid(t *testing.T) {
	pairs := [][2]api.Big{}
	for _, a := range invalid {
		for _, b := range append(numbers(), invalid["a sign of 2"], invalid["a sign without digits"], invalid["a low digit of -1"]) {
			pairs = append(pairs, [2]api.Big{a, b}, [2]api.Big{b, a})
		}
	}
	for _, p := range pairs {
		for name, op := range operations {
			if got, e := op.of(p[0], p[1]); e != api.ErrArg || !zero(got) {
				t.Errorf("%s of %v and %v is %v and %d", name, p[0], p[1], got, e)
			}
		}
		// This is the first error, also where b is 0, and where b has no digits, or digits of 0 alone.
		if q, r, e := big.Div(p[0], p[1]); e != api.ErrArg || !zero(q) || !zero(r) {
			t.Errorf("Div of %v and %v is %v, %v and %d", p[0], p[1], q, r, e)
		}
	}
}

func TestDivisionByZero(t *testing.T) {
	for _, a := range numbers() {
		for _, b := range []api.Big{{}, {Digits: []int{}}} {
			if q, r, e := big.Div(a, b); e != api.ErrDivide || !zero(q) || !zero(r) {
				t.Errorf("Div of %v and 0 is %v, %v and %d", a, q, r, e)
			}
		}
	}
}

func TestExamples(t *testing.T) {
	p, e := big.Mul(big.Of(-99999999999), big.Of(99999999999))
	if s := big.Text(p); s != "-9999999999800000000001" || e != api.OK {
		t.Error(s, e)
	}
	for _, c := range []struct{ a, b, q, r int }{{-7, 2, -4, 1}, {7, -2, -4, -1}, {-7, -2, 3, -1}, {7, 2, 3, 1}, {6, -2, -3, 0}, {-1, 5, -1, 4}, {1, -5, -1, -4}, {0, -5, 0, 0}} {
		q, r, e := big.Div(big.Of(c.a), big.Of(c.b))
		if !big.Same(q, big.Of(c.q)) || !big.Same(r, big.Of(c.r)) || e != api.OK {
			t.Errorf("Div of %d and %d is %v, %v and %d", c.a, c.b, q, r, e)
		}
	}
	for _, c := range []struct{ a, b, g int }{{-12, 18, 6}, {0, -5, 5}, {-5, 0, 5}, {0, 0, 0}, {1, 0, 1}, {17, 5, 1}, {math.MinInt, 6, 2}} {
		if g, e := big.Gcd(big.Of(c.a), big.Of(c.b)); !big.Same(g, big.Of(c.g)) || e != api.OK {
			t.Errorf("Gcd of %d and %d is %v and %d", c.a, c.b, g, e)
		}
	}
}

// P4.3

func TestText(t *testing.T) {
	for _, a := range numbers() {
		if s := big.Text(a); s != value(a).String() {
			t.Errorf("Text of %v is %s", a, s)
		}
	}
	for name, a := range invalid {
		if s := big.Text(a); s != "" {
			t.Errorf("%s: Text is %q", name, s)
		}
	}
	if s := big.Text(api.Big{Digits: []int{}}); s != "0" {
		t.Errorf("Text of 0 is %q", s)
	}
}

// texts returns texts of big integers with up to n digits.
func texts(n int) []string {
	l := []string{"0"}
	for i := range n {
		rest := n - 1 - i
		for _, s := range []string{"1" + strings.Repeat("0", rest), strings.Repeat("9", rest+1), "7" + strings.Repeat("0", rest/2) + strings.Repeat("4", rest-rest/2), strings.Repeat("1234567890", n)[i:n]} {
			if s[0] != '0' {
				l = append(l, s, "-"+s)
			}
		}
	}
	return l
}

func TestTextsAreReadAndWritten(t *testing.T) {
	for _, s := range append(texts(80), strings.Repeat("9", 2000), "-1"+strings.Repeat("0", 3000)) {
		a, e := big.Read(s)
		w := written(t, s)
		if e != api.OK || a.Sign != w.Sign || !slices.Equal(a.Digits, w.Digits) {
			t.Errorf("Read of %s is %v and %d", s, a, e)
		}
		if got := big.Text(w); got != s {
			t.Errorf("Text of %s is %s", s, got)
		}
	}
}

func TestWhatIsNoTextIsRefused(t *testing.T) {
	for _, s := range []string{
		"", "-", "--", "+", "-0", "00", "000", "-00", "01", "007", "-01", "-007", "0123456789012345678901234567890", "-000000000000000000000000000000",
		"+0", "+1", "--1", "-+1", "+-1", "1-", "1+", "- 1", " 1", "1 ", "1\n", "\t1", "1\x00", "\x001", "1_000", "1,000", "1.0", "1.", ".1", "1e3", "0x1", "0b1", "1a", "a", "a1", "1 2", "1-2",
		"/", ":", "1/", "1:", "\u0661", "1\u0661", "\u0660", "\uff11", "\u22121", "1\xff", "\xff", "\xe0\x80", "1/1", "123456789012a", "a123456789012", "12345678901234567890123x", "1234567-90123456789012", "123456789012345678901234.", "nil", "NaN",
	} {
		if a, e := big.Read(s); e != api.ErrForm || !zero(a) {
			t.Errorf("Read of %q is %v and %d", s, a, e)
		}
	}
}

// Each byte stands once at each place of a text that crosses the limits of the groups: only digits are read.
func TestEachByteAtEachPlace(t *testing.T) {
	const s = "12345678901234567890123456"
	for i := range len(s) {
		for c := range 256 {
			text := s[:i] + string([]byte{byte(c)}) + s[i+1:]
			isDigit := c >= '0' && c <= '9'
			right := isDigit && (i > 0 || c > '0') || i == 0 && c == '-'
			a, e := big.Read(text)
			if right != (e == api.OK) || !right && (e != api.ErrForm || !zero(a)) || right && big.Text(a) != text {
				t.Errorf("Read of %q is %v and %d", text, a, e)
			}
		}
	}
}

// P4.4

// all calls every function with a and b, and returns all big integers and all other results.
func all(a, b api.Big) (results []api.Big, others []any) {
	for _, name := range []string{"Add", "Sub", "Mul", "Gcd"} {
		r, e := operations[name].of(a, b)
		results, others = append(results, r), append(others, e)
	}
	q, r, e := big.Div(a, b)
	n, is := big.Int(a)
	s := big.Text(a)
	back, f := big.Read(s)
	results = append(results, q, r, big.Neg(a), back, big.Of(n))
	return results, append(others, e, f, n, is, s, big.Right(a), big.Compare(a, b), big.Same(a, b))
}

// cases returns pairs of big integers, valid or not.
func cases() [][2]api.Big {
	l := append(numbers(), number(1, slices.Repeat([]int{most}, 30)...), number(-1, slices.Repeat([]int{5}, 20)...))
	l = append(l, invalid["a last digit of 0"], invalid["a high digit of -1"], invalid["the greatest sign"])
	var pairs [][2]api.Big
	for i, a := range l {
		for _, b := range l[i%5:] {
			pairs = append(pairs, [2]api.Big{a, b})
		}
	}
	return pairs
}

// withRoom returns a copy of a big integer whose digits lie in a longer slice, and this slice.
func withRoom(a api.Big) (api.Big, []int) {
	whole := append(slices.Clone(a.Digits), -7, -8, -9)
	return api.Big{Sign: a.Sign, Digits: whole[:len(a.Digits)]}, whole
}

func TestArgumentsAreNotChanged(t *testing.T) {
	for _, p := range cases() {
		a, wholeA := withRoom(p[0])
		b, wholeB := withRoom(p[1])
		beforeA, beforeB := slices.Clone(wholeA), slices.Clone(wholeB)
		all(a, b)
		if !slices.Equal(wholeA, beforeA) || !slices.Equal(wholeB, beforeB) {
			t.Errorf("%v or %v has changed", p[0], p[1])
		}
	}
}

func TestResultsShareNoMemory(t *testing.T) {
	for _, p := range cases() {
		a, wholeA := withRoom(p[0])
		b, wholeB := withRoom(p[1])
		results, _ := all(a, b)
		var before []api.Big
		for _, r := range results {
			before = append(before, number(r.Sign, slices.Clone(r.Digits)...))
		}
		for i := range wholeA {
			wholeA[i] = -1
		}
		for i := range wholeB {
			wholeB[i] = -2
		}
		for i, r := range results {
			if !big.Same(r, before[i]) {
				t.Errorf("result %d of %v and %v shares memory with an argument", i, p[0], p[1])
			}
			// Also what is beyond its length belongs to the result alone.
			whole := r.Digits[:cap(r.Digits)]
			for k := range whole {
				whole[k] = -3
			}
		}
		for i, r := range results {
			if slices.ContainsFunc(r.Digits, func(d int) bool { return d != -3 }) {
				t.Errorf("result %d of %v and %v shares memory with another one", i, p[0], p[1])
			}
		}
		if slices.Contains(wholeA, -3) || slices.Contains(wholeB, -3) {
			t.Errorf("a result of %v and %v shares memory with an argument", p[0], p[1])
		}
	}
}

func TestTheSameCallsReturnTheSame(t *testing.T) {
	for _, p := range cases() {
		results, others := all(p[0], p[1])
		// An argument of the same value elsewhere in memory, with room or without it, makes no difference (P5).
		a, _ := withRoom(p[0])
		b := number(p[1].Sign, slices.Clip(slices.Clone(p[1].Digits))...)
		again, othersAgain := all(a, b)
		if !slices.EqualFunc(results, again, big.Same) || !slices.Equal(others, othersAgain) {
			t.Errorf("%v and %v have different results", p[0], p[1])
		}
	}
}

func TestOneNumberTwice(t *testing.T) {
	for _, a := range numbers() {
		before := slices.Clone(a.Digits)
		checkOperations(t, a, a)
		if big.Compare(a, a) != 0 || !big.Same(a, a) || !slices.Equal(a.Digits, before) {
			t.Errorf("%v and itself", a)
		}
	}
}

// P1: all functions return for all arguments. Nothing but the result of Right decides what is an error.
func TestAllArguments(t *testing.T) {
	signs := []int{-1, 0, 1, 2, -2, math.MinInt, math.MaxInt}
	digits := []int{0, 1, most, most + 1, -1, math.MinInt, math.MaxInt}
	var l []api.Big
	for _, sign := range signs {
		l = append(l, number(sign))
		for _, d := range digits {
			l = append(l, number(sign, d))
			for _, e := range digits {
				l = append(l, number(sign, d, e), number(sign, d, 5, 0, 7, e))
			}
		}
	}
	for _, a := range l {
		for _, b := range l {
			_, others := all(a, b)
			want := api.ErrArg
			if big.Right(a) && big.Right(b) {
				want = api.OK
			}
			for _, e := range others[:4] {
				if e != want {
					t.Fatalf("an operation of %v and %v returns %d", a, b, e)
				}
			}
		}
	}
}
