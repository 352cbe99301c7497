package scale_test

import (
	"math"
	exact "math/big"
	"math/rand/v2"
	"slices"
	"testing"

	"kitbag/api"
	"kitbag/frac"
	"kitbag/scale"
)

// rational returns the value that a text writes.
func rational(s string) *exact.Rat {
	r, ok := new(exact.Rat).SetString(s)
	if !ok {
		panic(s)
	}
	return r
}

// whole returns an int as a value.
func whole(n int) *exact.Rat { return new(exact.Rat).SetInt64(int64(n)) }

func plus(x, y *exact.Rat) *exact.Rat  { return new(exact.Rat).Add(x, y) }
func minus(x, y *exact.Rat) *exact.Rat { return new(exact.Rat).Sub(x, y) }
func times(x, y *exact.Rat) *exact.Rat { return new(exact.Rat).Mul(x, y) }

// is reports whether a fraction is the valid one with a value.
func is(f api.Frac, want *exact.Rat) bool {
	return frac.Right(f) && rational(frac.Text(f)).Cmp(want) == 0
}

// zero reports whether a fraction is the zero value.
func zero(f api.Frac) bool {
	return f.P.Sign == 0 && len(f.P.Digits) == 0 && f.Q.Sign == 0 && len(f.Q.Digits) == 0
}

// example is the certificate of the chapter's examples.
func example() api.Cert {
	return api.Cert{Scale: 2, From: 10, Until: 100, Units: 50, PerMille: 2, Drift: 3}
}

// greatest is the certificate with the greatest fields.
func greatest() api.Cert {
	return api.Cert{Scale: math.MaxInt, From: 0, Until: 100000, Units: 1 << 40, PerMille: 1000, Drift: 10000000}
}

// changed returns a certificate after a change.
func changed(c api.Cert, change func(c *api.Cert)) api.Cert {
	change(&c)
	return c
}

// good are valid certificates.
func good() []api.Cert {
	return []api.Cert{
		example(), greatest(), {}, {Scale: 1 << 40}, {Until: 100000}, {From: 100000, Until: 100000}, {From: 7, Until: 7, Units: 1}, {Until: 9, PerMille: 1}, {Until: 9, Drift: 1},
		{Scale: 1, From: 99999, Until: 100000, Units: 1<<40 - 1, PerMille: 999, Drift: 9999999},
	}
}

// bad are certificates that are not valid, each for one reason that the chapter names.
func bad() map[string]api.Cert {
	l := map[string]api.Cert{}
	for name, change := range map[string]func(c *api.Cert){
		"the scale -1": func(c *api.Cert) { c.Scale = -1 }, "the least scale": func(c *api.Cert) { c.Scale = math.MinInt },
		"from -1": func(c *api.Cert) { c.From = -1 }, "the least from": func(c *api.Cert) { c.From = math.MinInt },
		"from after until": func(c *api.Cert) { c.From, c.Until = 21, 20 }, "until before from": func(c *api.Cert) { c.From, c.Until = 20, 0 }, "until -1": func(c *api.Cert) { c.From, c.Until = 0, -1 }, "the least until": func(c *api.Cert) { c.Until = math.MinInt },
		"the greatest from": func(c *api.Cert) { c.From = math.MaxInt }, "until too late": func(c *api.Cert) { c.Until = 100001 }, "the greatest until": func(c *api.Cert) { c.Until = math.MaxInt }, "all too late": func(c *api.Cert) { c.From, c.Until = 100001, 100001 }, "all too early": func(c *api.Cert) { c.From, c.Until = -1, -1 },
		"the units -1": func(c *api.Cert) { c.Units = -1 }, "too many units": func(c *api.Cert) { c.Units = 1<<40 + 1 }, "the least units": func(c *api.Cert) { c.Units = math.MinInt }, "the greatest units": func(c *api.Cert) { c.Units = math.MaxInt },
		"-1 per mille": func(c *api.Cert) { c.PerMille = -1 }, "1001 per mille": func(c *api.Cert) { c.PerMille = 1001 }, "the least per mille": func(c *api.Cert) { c.PerMille = math.MinInt }, "the greatest per mille": func(c *api.Cert) { c.PerMille = math.MaxInt },
		"the drift -1": func(c *api.Cert) { c.Drift = -1 }, "too much drift": func(c *api.Cert) { c.Drift = 10000001 }, "the least drift": func(c *api.Cert) { c.Drift = math.MinInt }, "the greatest drift": func(c *api.Cert) { c.Drift = math.MaxInt },
	} {
		l[name] = changed(example(), change)
		l[name+", otherwise 0"] = changed(api.Cert{Until: 20}, change)
	}
	return l
}

// badReadings are not in the range of readings.
func badReadings() []int {
	return []int{-1, 1<<40 + 1, math.MinInt, math.MaxInt, -1 << 40, math.MinInt + 1}
}

// P11.1

func TestRight(t *testing.T) {
	for _, c := range good() {
		if !scale.Right(c) {
			t.Errorf("%v is not valid", c)
		}
	}
	for name, c := range bad() {
		if scale.Right(c) {
			t.Errorf("%s: %v is valid", name, c)
		}
	}
}

// finds checks which certificate is in force; -1 stands for none.
func finds(t *testing.T, l []api.Cert, of, day, want int) {
	t.Helper()
	at, ok := scale.Find(l, of, day)
	if want < 0 && (ok || at != 0) || want >= 0 && (!ok || at != want) {
		t.Errorf("Find of the scale %d on day %d is %d and %v, want %d", of, day, at, ok, want)
	}
}

func TestFind(t *testing.T) {
	l := []api.Cert{
		{Scale: 5, From: 20, Until: 30}, {Scale: 5, From: 0, Until: 100}, {Scale: 3, From: 0, Until: 60}, {Scale: 5, From: 20, Until: 40}, {Scale: 5, From: 20, Until: 25, Units: 7},
		{Scale: 5, From: 50, Until: 90, PerMille: 1001}, {Scale: 5, From: 35, Until: 60}, {Scale: 3, From: 40, Until: 50}, {Scale: 5, From: 10, Until: 100}, {Scale: 5, From: 100000, Until: 100000},
	}
	for _, c := range [][3]int{
		{5, -1, -1}, {5, 0, 1}, {5, 9, 1}, {5, 10, 8}, {5, 19, 8}, {5, 20, 4}, {5, 25, 4}, {5, 26, 3}, {5, 30, 3}, {5, 34, 3}, {5, 35, 6}, {5, 40, 6}, {5, 50, 6}, {5, 60, 6}, {5, 61, 8}, {5, 100, 8}, {5, 101, -1}, {5, 99999, -1}, {5, 100000, 9}, {5, 100001, -1},
		{3, 0, 2}, {3, 39, 2}, {3, 40, 7}, {3, 50, 7}, {3, 51, 2}, {3, 60, 2}, {3, 61, -1}, {4, 20, -1}, {-5, 20, -1}, {0, 20, -1}, {5, math.MinInt, -1}, {5, math.MaxInt, -1}, {math.MinInt, 20, -1}, {math.MaxInt, 20, -1},
	} {
		finds(t, l, c[0], c[1], c[2])
	}
	finds(t, nil, 0, 0, -1)
	finds(t, []api.Cert{}, 0, 0, -1)
	finds(t, []api.Cert{{}}, 0, 0, 0)
	finds(t, []api.Cert{greatest()}, math.MaxInt, 100000, 0)
	finds(t, []api.Cert{{Scale: 1}, {Scale: 1}, {Scale: 1}, {Scale: 2}}, 1, 0, 2)
}

// Certificates that are not valid are ignored: they cover no day, not even of their own scale.
func TestFindIgnoresWhatIsNotValid(t *testing.T) {
	for _, c := range bad() {
		for _, day := range []int{c.From, c.Until, 0, 10, 15, 20, 50, 100, 100000} {
			finds(t, []api.Cert{c}, c.Scale, day, -1)
			for _, of := range []int{c.Scale, 2, 0} {
				l := []api.Cert{c, {Scale: 2, From: 0, Until: 100000}, c, {Scale: 0, From: 0, Until: 100000}, c}
				want := -1
				if day >= 0 && day <= 100000 && of == 2 {
					want = 1
				} else if day >= 0 && day <= 100000 && of == 0 {
					want = 3
				}
				finds(t, l, of, day, want)
			}
		}
	}
}

func TestRecalled(t *testing.T) {
	l := []api.Recall{{Scale: 1, Since: 30}, {Scale: 2, Since: 20}, {Scale: 1, Since: 10}, {Scale: 4, Since: -5}, {Scale: -3, Since: 7}, {Scale: 5, Since: math.MaxInt}, {Scale: 6, Since: math.MinInt}}
	for _, c := range []struct {
		of, day int
		want    bool
	}{
		{1, 9, false}, {1, 10, true}, {1, 29, true}, {1, 30, true}, {1, 100000, true}, {2, 19, false}, {2, 20, true}, {2, 21, true}, {3, 50, false}, {0, 50, false}, {4, -6, false}, {4, -5, true}, {4, 0, true}, {-3, 6, false}, {-3, 7, true}, {-1, 50, false},
		{5, math.MaxInt - 1, false}, {5, math.MaxInt, true}, {6, math.MinInt, true}, {6, 0, true}, {1, math.MaxInt, true}, {1, math.MinInt, false},
	} {
		if scale.Recalled(l, c.of, c.day) != c.want {
			t.Errorf("Recalled of the scale %d on day %d is %v", c.of, c.day, !c.want)
		}
		if scale.Recalled(nil, c.of, c.day) || scale.Recalled([]api.Recall{}, c.of, c.day) {
			t.Errorf("no recall recalls the scale %d on day %d", c.of, c.day)
		}
	}
}

// P11.2

// errorOf is the error of a reading, calculated by the standard library.
func errorOf(c api.Cert, reading, day int) *exact.Rat {
	e := plus(whole(c.Units), times(whole(reading), exact.NewRat(int64(c.PerMille), 1000)))
	return plus(e, times(whole(c.Drift), minus(whole(day), whole(c.From))))
}

func TestError(t *testing.T) {
	for _, c := range []struct {
		cert         api.Cert
		reading, day int
		want         string
	}{
		{example(), 10000, 10, "70"}, {example(), 10000, 20, "100"}, {example(), 30, 20, "4003/50"}, {example(), 0, 10, "50"}, {example(), 1, 10, "25001/500"}, {example(), 500, 100, "321"},
		{api.Cert{}, 1 << 40, 0, "0"}, {api.Cert{PerMille: 1}, 1, 0, "1/1000"}, {api.Cert{PerMille: 1}, 8, 0, "1/125"}, {api.Cert{PerMille: 999}, 1<<40 - 1, 0, "43936484645889/40"},
		{greatest(), 1 << 40, 100000, "3199023255552"}, {greatest(), 1 << 40, 0, "2199023255552"}, {greatest(), 0, 0, "1099511627776"}, {greatest(), 0, 1, "1099521627776"},
		{api.Cert{From: 100000, Until: 100000, Drift: 10000000, Units: 3}, 77, 100000, "3"},
	} {
		e, ok := scale.Error(c.cert, c.reading, c.day)
		if !ok || !is(e, rational(c.want)) {
			t.Errorf("Error of %v, %d and %d is %s and %v, want %s", c.cert, c.reading, c.day, frac.Text(e), ok, c.want)
		}
	}
	for _, c := range good() {
		for _, day := range []int{c.From, (c.From + c.Until) / 2, c.Until} {
			for _, reading := range []int{0, 1, 2, 500, 999, 1000, 1001, 1<<40 - 1, 1 << 40} {
				if e, ok := scale.Error(c, reading, day); !ok || !is(e, errorOf(c, reading, day)) {
					t.Errorf("Error of %v, %d and %d is %s and %v", c, reading, day, frac.Text(e), ok)
				}
			}
		}
	}
}

// none checks that there is no error.
func none(t *testing.T, c api.Cert, reading, day int) {
	t.Helper()
	if e, ok := scale.Error(c, reading, day); ok || !zero(e) {
		t.Errorf("Error of %v, %d and %d is %v and %v", c, reading, day, e, ok)
	}
}

func TestNoError(t *testing.T) {
	for _, c := range bad() {
		for _, day := range []int{c.From, c.Until, 0, 10, 15, 20, 100000} {
			none(t, c, 1000, day)
			none(t, c, 0, day)
		}
	}
	for _, c := range good() {
		for _, reading := range badReadings() {
			none(t, c, reading, c.From)
			none(t, c, reading, c.Until)
		}
		for _, day := range []int{c.From - 1, c.Until + 1, -1, 100001, math.MinInt, math.MaxInt} {
			none(t, c, 1000, day)
			none(t, c, 0, day)
		}
	}
}

// P11.3

// contains checks that the interval of a reading has these ends.
func contains(t *testing.T, certs []api.Cert, recalls []api.Recall, of, reading, day int, low, high *exact.Rat) {
	t.Helper()
	a, b, ok := scale.Interval(certs, recalls, of, reading, day)
	if !ok || !is(a, low) || !is(b, high) {
		t.Errorf("Interval of the scale %d, %d and day %d is %s to %s and %v, want %s to %s", of, reading, day, frac.Text(a), frac.Text(b), ok, low, high)
	}
}

// missing checks that there is no interval.
func missing(t *testing.T, certs []api.Cert, recalls []api.Recall, of, reading, day int) {
	t.Helper()
	if a, b, ok := scale.Interval(certs, recalls, of, reading, day); ok || !zero(a) || !zero(b) {
		t.Errorf("Interval of the scale %d, %d and day %d is %v to %v and %v", of, reading, day, a, b, ok)
	}
}

func TestExamples(t *testing.T) {
	l := []api.Cert{example()}
	contains(t, l, nil, 2, 10000, 10, rational("9930"), rational("10070"))
	contains(t, l, nil, 2, 10000, 20, rational("9900"), rational("10100"))
	contains(t, l, nil, 2, 30, 20, rational("0"), rational("5503/50"))
	missing(t, l, nil, 2, 10000, 101)
	missing(t, l, nil, 2, 10000, 9)
	missing(t, l, nil, 1, 10000, 20)
	missing(t, l, []api.Recall{{Scale: 2, Since: 20}}, 2, 10000, 20)
	contains(t, l, []api.Recall{{Scale: 2, Since: 21}}, 2, 10000, 20, rational("9900"), rational("10100"))
}

func TestInterval(t *testing.T) {
	for _, c := range good() {
		for _, day := range []int{c.From, (c.From + c.Until) / 2, c.Until} {
			for _, reading := range []int{0, 1, 2, 50, 51, 52, 53, 1000, 1001, 1<<40 - 1, 1 << 40} {
				e := errorOf(c, reading, day)
				low, high := minus(whole(reading), e), plus(whole(reading), e)
				if low.Sign() < 0 {
					low = whole(0)
				}
				contains(t, []api.Cert{c}, nil, c.Scale, reading, day, low, high)
			}
		}
	}
	// Nearly 0, 0, and below 0.
	l := []api.Cert{{Units: 9, PerMille: 100}}
	contains(t, l, nil, 0, 11, 0, rational("9/10"), rational("211/10"))
	contains(t, l, nil, 0, 10, 0, rational("0"), rational("20"))
	contains(t, l, nil, 0, 9, 0, rational("0"), rational("189/10"))
}

// The interval is that of the certificate in force, also where this one is less exact.
func TestIntervalOfTheCertificateInForce(t *testing.T) {
	l := []api.Cert{{Scale: 1, From: 5, Until: 20, Units: 3}, {Scale: 1, From: 5, Until: 15, Units: 7}, {Scale: 1, Until: 30, Units: 1}, {Scale: 2, From: 9, Until: 30, Units: 2}, {Scale: 1, From: 18, Until: 25, Units: 4, Drift: 1}, {Scale: 1, From: 19, Until: 30, Units: 9, Drift: -1}}
	for day, want := range map[int]int{0: 1, 4: 1, 5: 7, 15: 7, 16: 3, 17: 3, 18: 4, 20: 6, 25: 11, 26: 1, 30: 1} {
		contains(t, l, nil, 1, 100, day, whole(100-want), whole(100+want))
	}
	missing(t, l, nil, 1, 100, 31)
	missing(t, l, nil, 1, 100, -1)
}

func TestNoInterval(t *testing.T) {
	l := good()
	for _, c := range l {
		for _, reading := range badReadings() {
			missing(t, l, nil, c.Scale, reading, c.From)
			missing(t, []api.Cert{c}, nil, c.Scale, reading, c.Until)
		}
		for _, day := range []int{c.From - 1, c.Until + 1, math.MinInt, math.MaxInt} {
			missing(t, []api.Cert{c}, nil, c.Scale, 5, day)
		}
		missing(t, []api.Cert{c}, []api.Recall{{Scale: c.Scale, Since: c.From}}, c.Scale, 5, c.From)
		missing(t, []api.Cert{c}, []api.Recall{{Scale: 77}, {Scale: c.Scale, Since: math.MinInt}}, c.Scale, 5, c.Until)
		missing(t, nil, nil, c.Scale, 5, c.From)
		missing(t, []api.Cert{}, []api.Recall{}, c.Scale, 5, c.From)
	}
	for _, c := range bad() {
		for _, day := range []int{c.From, c.Until, 0, 10, 20} {
			missing(t, []api.Cert{c}, nil, c.Scale, 5, day)
		}
	}
}

// P11.4, and the rules P3 and P4

// answers are the results of all functions: the fractions, and all others.
func answers(certs []api.Cert, recalls []api.Recall, of, reading, day int) ([]api.Frac, []any) {
	at, found := scale.Find(certs, of, day)
	low, high, ok := scale.Interval(certs, recalls, of, reading, day)
	fs, rest := []api.Frac{low, high}, []any{at, found, scale.Recalled(recalls, of, day), ok}
	for _, c := range certs {
		e, ok := scale.Error(c, reading, day)
		fs, rest = append(fs, e), append(rest, scale.Right(c), ok)
	}
	return fs, rest
}

// cases calls f with certificates and recalls, valid or not, and other arguments.
func cases(f func(certs []api.Cert, recalls []api.Recall, of, reading, day int)) {
	certs := append(good(), bad()["1001 per mille"], bad()["from after until"], bad()["the least units"], api.Cert{Scale: 2, From: 15, Until: 30, Units: 1})
	recalls := []api.Recall{{Scale: 1, Since: 3}, {Scale: 2, Since: 60}, {Scale: -1, Since: -1}}
	for n := range len(certs) + 1 {
		for m := range len(recalls) + 1 {
			for _, of := range []int{0, 1, 2, math.MaxInt, -1, math.MinInt} {
				for _, reading := range []int{0, 31, 1000, 1 << 40, -1, math.MaxInt} {
					for _, day := range []int{0, 7, 10, 20, 61, 100000, -1, math.MinInt, math.MaxInt} {
						f(certs[:n], recalls[:m], of, reading, day)
					}
				}
			}
		}
	}
}

// digits returns the digits of fractions.
func digits(l []api.Frac) (d [][]int) {
	for _, f := range l {
		d = append(d, f.P.Digits, f.Q.Digits)
	}
	return d
}

// copies returns copies of slices.
func copies(l [][]int) (c [][]int) {
	for _, s := range l {
		c = append(c, slices.Clone(s))
	}
	return c
}

// fill gives each element of a slice a value, also those beyond its length.
func fill(s []int, n int) {
	s = s[:cap(s)]
	for i := range s {
		s[i] = n
	}
}

// full reports whether all elements of a slice have a value, also those beyond its length.
func full(s []int, n int) bool {
	return !slices.ContainsFunc(s[:cap(s)], func(d int) bool { return d != n })
}

func TestResultsShareNoMemory(t *testing.T) {
	cases(func(certs []api.Cert, recalls []api.Recall, of, reading, day int) {
		fs, _ := answers(certs, recalls, of, reading, day)
		slots := digits(fs)
		for i, slot := range slots {
			fill(slot, i)
		}
		for i, slot := range slots {
			if !full(slot, i) {
				t.Error("two results share memory")
			}
		}
	})
}

// Results depend on the arguments alone: not on what was done with earlier results, nor on what lies beyond the length of a slice.
func TestTheSameCallsReturnTheSame(t *testing.T) {
	cases(func(certs []api.Cert, recalls []api.Recall, of, reading, day int) {
		fs, rest := answers(certs, recalls, of, reading, day)
		slots := digits(fs)
		before := copies(slots)
		for _, slot := range slots {
			fill(slot, 5)
		}
		c := append(slices.Clone(certs), api.Cert{Scale: of, Until: 100000, Units: 99}, api.Cert{Scale: of, From: day, Until: day})
		r := append(slices.Clone(recalls), api.Recall{Scale: of, Since: math.MinInt})
		cBefore, rBefore := slices.Clone(c), slices.Clone(r)
		again, restAgain := answers(c[:len(certs)], r[:len(recalls)], of, reading, day)
		if !slices.EqualFunc(digits(again), before, slices.Equal[[]int]) || !slices.Equal(rest, restAgain) {
			t.Errorf("other results for %v, %v, %d, %d and %d", certs, recalls, of, reading, day)
		}
		if !slices.Equal(c, cBefore) || !slices.Equal(r, rBefore) {
			t.Errorf("an argument has changed: %v, %v", c, r)
		}
	})
}

// P1: all functions return for all arguments; nothing but the definitions decides whether there is a result.
func TestAllArguments(t *testing.T) {
	odd := []int{math.MinInt, -1, 0, 0, 0, 1, 1, 1, 1000, 1001, 100000, 100001, 10000000, 10000001, 1 << 40, 1<<40 + 1, math.MaxInt}
	r := rand.New(rand.NewPCG(11, 0))
	at := func() int { return odd[r.IntN(len(odd))] }
	met := map[[3]bool]int{}
	for range 40000 {
		c := api.Cert{Scale: at(), From: at(), Until: at(), Units: at(), PerMille: at(), Drift: at()}
		recalls := []api.Recall{{Scale: at(), Since: at()}}
		reading, day := at(), at()
		right := c.Scale >= 0 && c.From >= 0 && c.From <= c.Until && c.Until <= 100000 && c.Units >= 0 && c.Units <= 1<<40 && c.PerMille >= 0 && c.PerMille <= 1000 && c.Drift >= 0 && c.Drift <= 10000000
		covers := right && c.From <= day && day <= c.Until
		measured := covers && reading >= 0 && reading <= 1<<40
		recalled := recalls[0].Scale == c.Scale && recalls[0].Since <= day
		met[[3]bool{covers, measured, recalled}]++
		fs, rest := answers([]api.Cert{c}, recalls, c.Scale, reading, day)
		if want := []any{0, covers, recalled, measured && !recalled, right, measured}; !slices.Equal(rest, want) {
			t.Fatalf("%v, %v, %d, %d: %v, want %v", c, recalls, reading, day, rest, want)
		}
		if measured == zero(fs[2]) || (measured && !recalled) == zero(fs[0]) || zero(fs[0]) != zero(fs[1]) {
			t.Fatalf("%v, %v, %d, %d: %v", c, recalls, reading, day, fs)
		}
	}
	if len(met) != 6 {
		t.Errorf("not all cases are met: %v", met)
	}
}
