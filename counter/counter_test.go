package counter_test

import (
	"fmt"
	"math"
	exact "math/big"
	"math/rand/v2"
	"slices"
	"strings"
	"testing"

	"kitbag/api"
	"kitbag/counter"
	"kitbag/frac"
	"kitbag/scale"
)

// written returns the valid fraction that a text writes.
func written(s string) api.Frac {
	r, ok := new(exact.Rat).SetString(s)
	if !ok {
		panic(s)
	}
	f, e := frac.Read(r.String())
	if e != api.OK {
		panic(s)
	}
	return f
}

// ratio returns the fraction that consists of two ints as they are; it may not be valid.
func ratio(p, q int) api.Frac { return api.Frac{P: frac.Int(p).P, Q: frac.Int(q).P} }

// spell writes a span in a message.
func spell(s api.Span) string { return frac.Text(s.Low) + " to " + frac.Text(s.High) }

// zero reports whether a span is the zero span.
func zero(s api.Span) bool {
	for _, b := range []api.Big{s.Low.P, s.Low.Q, s.High.P, s.High.Q} {
		if b.Sign != 0 || len(b.Digits) != 0 {
			return false
		}
	}
	return true
}

// sample is a station with its certificates and recalls.
type sample struct {
	st      api.Station
	certs   []api.Cert
	recalls []api.Recall
}

func (x sample) check() api.Errno { return counter.Check(x.st, x.certs, x.recalls) }

func (x sample) allowed(h [][]api.Frac) bool {
	return counter.Allowed(x.st, x.certs, x.recalls, h)
}

func (x sample) between(from, to int) (api.Span, api.Errno) {
	return counter.Between(x.st, x.certs, x.recalls, from, to)
}

// clone returns a copy of a sample.
func (x sample) clone() sample {
	x.st.Meters, x.st.Readings = slices.Clone(x.st.Meters), slices.Clone(x.st.Readings)
	x.certs, x.recalls = slices.Clone(x.certs), slices.Clone(x.recalls)
	return x
}

// changed returns a copy of a sample after a change.
func (x sample) changed(change func(x *sample)) sample {
	x = x.clone()
	change(&x)
	return x
}

// equal reports whether two samples are the same.
func (x sample) equal(y sample) bool {
	return x.st.Name == y.st.Name && slices.Equal(x.st.Meters, y.st.Meters) && slices.Equal(x.st.Readings, y.st.Readings) && slices.Equal(x.certs, y.certs) && slices.Equal(x.recalls, y.recalls)
}

// example is the station of the chapter's examples.
func example() sample {
	return sample{st: api.Station{Name: "main", Meters: []api.Meter{{Scale: 0, From: 0, Until: 10}}, Readings: []api.Reading{{Day: 2, Count: 100}, {Day: 8, Count: 130}}}, certs: []api.Cert{{Scale: 0, Until: 20, Units: 2}}}
}

// three is a station with three meters, all of whose readings have intervals: 17/2 to 23/2, 37 to 43, 47 to 53; 0 to 3, 1 to 1; 98 to 102, 197 to 203.
func three() sample {
	return sample{
		st: api.Station{
			Name:     "a_1",
			Meters:   []api.Meter{{Scale: 4, From: 3, Until: 8}, {Scale: 6, From: 8, Until: 9}, {Scale: 4, From: 9, Until: 20}},
			Readings: []api.Reading{{Meter: 0, Day: 3, Count: 10}, {Meter: 0, Day: 5, Count: 40}, {Meter: 0, Day: 8, Count: 50}, {Meter: 1, Day: 8, Count: 1}, {Meter: 1, Day: 9, Count: 1}, {Meter: 2, Day: 12, Count: 100}, {Meter: 2, Day: 20, Count: 200}},
		},
		certs:   []api.Cert{{Scale: 4, From: 0, Until: 4, Units: 1, PerMille: 50}, {Scale: 4, From: 5, Until: 11, Units: 3}, {Scale: 4, From: 12, Until: 20, Units: 1, PerMille: 10}, {Scale: 6, From: 0, Until: 100, Units: 2}, {Scale: 6, From: 9, Until: 100, Drift: 1}},
		recalls: []api.Recall{{Scale: 4, Since: 21}, {Scale: 5, Since: 0}},
	}
}

// spans checks what Between returns: low to high, or an error.
func spans(t *testing.T, x sample, from, to int, low, high string, want api.Errno) {
	t.Helper()
	s, e := x.between(from, to)
	if want != api.OK {
		if e != want || !zero(s) {
			t.Errorf("from %d to %d: %v and %d, want the error %d", from, to, s, e, want)
		}
		return
	}
	if e != api.OK || !frac.Same(s.Low, written(low)) || !frac.Same(s.High, written(high)) {
		t.Errorf("from %d to %d: %s and %d, want %s to %s", from, to, spell(s), e, low, high)
	}
}

func TestExamples(t *testing.T) {
	x := example()
	spans(t, x, 2, 8, "26", "34", api.OK)
	spans(t, x, 0, 2, "0", "102", api.OK)
	spans(t, x, 3, 5, "0", "34", api.OK)
	spans(t, x, 2, 9, "", "", api.ErrFree)
	spans(t, x, 8, 11, "", "", api.ErrNone)
	if e := x.check(); e != api.OK {
		t.Errorf("the example: %d", e)
	}
	if e := x.changed(func(x *sample) { x.st.Readings[1].Count = 95 }).check(); e != api.ErrUnsat {
		t.Errorf("95 on day 8: %d", e)
	}
	x.st.Meters = append(x.st.Meters, api.Meter{Scale: 1, From: 10, Until: 20})
	x.st.Readings = append(x.st.Readings, api.Reading{Meter: 1, Day: 12, Count: 7})
	spans(t, x, 2, 12, "", "", api.ErrFree)
}

// P12.1

// row returns meters of n days, one after the other.
func row(n int) (l []api.Meter) {
	for i := range n {
		l = append(l, api.Meter{From: i, Until: i + 1})
	}
	return l
}

// daily returns n readings of the first meter, on one day after the other.
func daily(n int) (l []api.Reading) {
	for i := range n {
		l = append(l, api.Reading{Day: i, Count: i})
	}
	return l
}

// bend is a change of the sample three, and the error that it brings.
type bend struct {
	name   string
	change func(x *sample)
	want   api.Errno
}

// meter changes one field of a meter.
func meter(name string, i int, want api.Errno, change func(m *api.Meter)) bend {
	return bend{fmt.Sprintf("meter %d: %s", i, name), func(x *sample) { change(&x.st.Meters[i]) }, want}
}

// reading changes one field of a reading.
func reading(name string, i int, want api.Errno, change func(r *api.Reading)) bend {
	return bend{fmt.Sprintf("reading %d: %s", i, name), func(x *sample) { change(&x.st.Readings[i]) }, want}
}

// bends are changes of three, each of which brings an error; the classes of errors are in the order of the chapter.
func bends() [][]bend {
	l := [][]bend{{}, {}}
	for _, name := range []string{"", "1a", "_a", "a b", "a-", strings.Repeat("a", 21), "\x00", "a\n", "ä"} {
		l[0] = append(l[0], bend{fmt.Sprintf("the name %q", name), func(x *sample) { x.st.Name = name }, api.ErrName})
	}
	l[1] = []bend{
		{"21 meters", func(x *sample) { x.st.Meters = append(x.st.Meters, make([]api.Meter, 21-len(x.st.Meters))...) }, api.ErrFull},
		{"401 readings", func(x *sample) {
			x.st.Readings = append(x.st.Readings, make([]api.Reading, 401-len(x.st.Readings))...)
		}, api.ErrFull},
		{"101 certificates", func(x *sample) { x.certs = append(x.certs, make([]api.Cert, 101-len(x.certs))...) }, api.ErrFull},
		{"31 recalls", func(x *sample) { x.recalls = append(x.recalls, make([]api.Recall, 31-len(x.recalls))...) }, api.ErrFull},
	}
	for i := range 3 {
		l = append(l, []bend{
			meter("the scale -1", i, api.ErrArg, func(m *api.Meter) { m.Scale = -1 }), meter("the least scale", i, api.ErrArg, func(m *api.Meter) { m.Scale = math.MinInt }),
		}, []bend{
			meter("until is from", i, api.ErrDay, func(m *api.Meter) { m.Until = m.From }), meter("until before from", i, api.ErrDay, func(m *api.Meter) { m.Until = m.From - 1 }), meter("until too late", i, api.ErrDay, func(m *api.Meter) { m.Until = 100001 }), meter("the greatest until", i, api.ErrDay, func(m *api.Meter) { m.Until = math.MaxInt }), meter("the least until", i, api.ErrDay, func(m *api.Meter) { m.Until = math.MinInt }),
			meter("from -1", i, api.ErrDay, func(m *api.Meter) { m.From = -1 }), meter("the least from", i, api.ErrDay, func(m *api.Meter) { m.From = math.MinInt }), meter("the greatest from", i, api.ErrDay, func(m *api.Meter) { m.From = math.MaxInt }), meter("from until on", i, api.ErrDay, func(m *api.Meter) { m.From = m.Until }),
		})
		if i > 0 {
			l[len(l)-1] = append(l[len(l)-1], meter("from too early", i, api.ErrDay, func(m *api.Meter) { m.From-- }), meter("from 0", i, api.ErrDay, func(m *api.Meter) { m.From = 0 }))
		}
	}
	for i := range 7 {
		l = append(l, []bend{
			reading("the meter -1", i, api.ErrArg, func(r *api.Reading) { r.Meter = -1 }), reading("the meter 3", i, api.ErrArg, func(r *api.Reading) { r.Meter = 3 }), reading("the least meter", i, api.ErrArg, func(r *api.Reading) { r.Meter = math.MinInt }), reading("the greatest meter", i, api.ErrArg, func(r *api.Reading) { r.Meter = math.MaxInt }),
			reading("the count -1", i, api.ErrArg, func(r *api.Reading) { r.Count = -1 }), reading("too great a count", i, api.ErrArg, func(r *api.Reading) { r.Count = 1<<40 + 1 }), reading("the least count", i, api.ErrArg, func(r *api.Reading) { r.Count = math.MinInt }), reading("the greatest count", i, api.ErrArg, func(r *api.Reading) { r.Count = math.MaxInt }),
		}, []bend{
			reading("the day -1", i, api.ErrDay, func(r *api.Reading) { r.Day = -1 }), reading("the day before the meter", i, api.ErrDay, func(r *api.Reading) { r.Day = []int{2, 7, 8}[r.Meter] }), reading("the day after the meter", i, api.ErrDay, func(r *api.Reading) { r.Day = []int{9, 10, 21}[r.Meter] }), reading("the least day", i, api.ErrDay, func(r *api.Reading) { r.Day = math.MinInt }), reading("the greatest day", i, api.ErrDay, func(r *api.Reading) { r.Day = math.MaxInt }),
		})
		if i > 0 {
			l = append(l, []bend{{fmt.Sprintf("reading %d: twice", i), func(x *sample) { x.st.Readings[i] = x.st.Readings[i-1] }, api.ErrTwice}})
		}
	}
	return append(l, []bend{
		{"too little on day 8", func(x *sample) { x.st.Readings[2].Count = 33 }, api.ErrUnsat}, {"too much on day 12", func(x *sample) { x.st.Readings[5].Count = 300 }, api.ErrUnsat},
	})
}

// errs checks what Check returns, and that Between returns the same error, whatever the days are.
func errs(t *testing.T, name string, x sample, want api.Errno) {
	t.Helper()
	if e := x.check(); e != want {
		t.Errorf("%s: Check is %d, want %d", name, e, want)
	}
	if want == api.OK {
		return
	}
	for _, days := range [][2]int{{3, 8}, {8, 3}, {-1, 1000}, {9, 9}, {4, 9}} {
		if s, e := x.between(days[0], days[1]); e != want || !zero(s) {
			t.Errorf("%s: Between is %v and %d, want the error %d", name, s, e, want)
		}
	}
}

func TestCheck(t *testing.T) {
	errs(t, "three", three(), api.OK)
	errs(t, "no meter", sample{st: api.Station{Name: "a"}}, api.OK)
	errs(t, "nothing", sample{}, api.ErrName)
	h := lowest(three())
	for _, l := range bends() {
		for _, b := range l {
			x := three().changed(b.change)
			errs(t, b.name, x, b.want)
			if x.allowed(h) || x.allowed(nil) {
				t.Errorf("%s: a history is allowed", b.name)
			}
		}
	}
}

// P12.1 and P2: of two errors the first one is returned.
func TestCheckReturnsTheFirstError(t *testing.T) {
	l := bends()
	for i, first := range l {
		for _, later := range l[i+1:] {
			for _, b := range first {
				c := later[len(later)-1]
				errs(t, b.name+" and "+c.name, three().changed(c.change).changed(b.change), b.want)
			}
		}
	}
}

// P12.1: a later reading is one of a later meter, or of the same meter and a later day; a later meter begins on the day on which the one before ends.
func TestCheckOrder(t *testing.T) {
	for _, c := range []struct {
		a, b api.Reading
		want api.Errno
	}{
		{api.Reading{Meter: 0, Day: 4}, api.Reading{Meter: 0, Day: 5}, api.OK}, {api.Reading{Meter: 0, Day: 4}, api.Reading{Meter: 0, Day: 4}, api.ErrTwice}, {api.Reading{Meter: 0, Day: 4}, api.Reading{Meter: 0, Day: 3}, api.ErrTwice},
		{api.Reading{Meter: 0, Day: 8}, api.Reading{Meter: 1, Day: 8}, api.OK}, {api.Reading{Meter: 0, Day: 8}, api.Reading{Meter: 2, Day: 9}, api.OK}, {api.Reading{Meter: 1, Day: 8}, api.Reading{Meter: 0, Day: 8}, api.ErrTwice}, {api.Reading{Meter: 1, Day: 9}, api.Reading{Meter: 2, Day: 9}, api.OK}, {api.Reading{Meter: 2, Day: 9}, api.Reading{Meter: 1, Day: 9}, api.ErrTwice}, {api.Reading{Meter: 2, Day: 9}, api.Reading{Meter: 2, Day: 20}, api.OK}, {api.Reading{Meter: 1, Day: 8}, api.Reading{Meter: 0, Day: 3}, api.ErrTwice},
		{api.Reading{Meter: 0, Day: 4}, api.Reading{Meter: 0, Day: 4, Count: 7}, api.ErrTwice},
	} {
		x := three()
		x.st.Readings = []api.Reading{c.a, c.b}
		x.certs = nil
		errs(t, fmt.Sprint(c.a, c.b), x, c.want)
		x.st.Readings = append(x.st.Readings, api.Reading{Meter: 3})
		if c.want == api.OK {
			c.want = api.ErrArg
		}
		errs(t, fmt.Sprint(c.a, c.b, "and no meter"), x, c.want)
	}
	// Between two meters there is no day without a meter, and none with both but the one on which they change.
	for from, want := range map[int]api.Errno{6: api.ErrDay, 7: api.ErrDay, 8: api.OK, 9: api.ErrDay, 10: api.ErrDay} {
		errs(t, fmt.Sprint("a second meter from day ", from), sample{st: api.Station{Name: "a", Meters: []api.Meter{{From: 3, Until: 8}, {From: from, Until: 12}}}}, want)
	}
}

// P12.1: an error of the order comes before one of a later reading, and after the others of its own.
func TestCheckOrderOfErrorsOfReadings(t *testing.T) {
	x := three()
	x.st.Readings[1], x.st.Readings[2].Day = x.st.Readings[0], -1
	errs(t, "twice, and then a day", x, api.ErrTwice)
	x.st.Readings[1].Count = -1
	errs(t, "twice, and a count", x, api.ErrArg)
	x.st.Readings[1].Count, x.st.Readings[1].Day = 1, 2
	errs(t, "twice, and a day", x, api.ErrDay)
}

// P12.1: the limits themselves are allowed.
func TestCheckLimits(t *testing.T) {
	x := sample{st: api.Station{Name: strings.Repeat("z", 20), Meters: row(20)}, certs: make([]api.Cert, 100), recalls: make([]api.Recall, 30)}
	errs(t, "20 meters, 100 certificates, 30 recalls", x, api.OK)
	x = sample{st: api.Station{Name: "a", Meters: []api.Meter{{Scale: math.MaxInt, From: 0, Until: 100000}}, Readings: daily(400)}, certs: []api.Cert{{Scale: math.MaxInt, Until: 100000}}}
	errs(t, "400 readings", x, api.OK)
	x.st.Readings = []api.Reading{{Day: 0, Count: 0}, {Day: 100000, Count: 1 << 40}}
	errs(t, "the greatest count", x, api.OK)
	spans(t, x, 0, 100000, "1099511627776", "1099511627776", api.OK)
	x.st.Meters = row(21)
	errs(t, "21 meters, and a wrong scale", x.changed(func(x *sample) { x.st.Meters[0].Scale = -1 }), api.ErrFull)
	x.st.Meters = []api.Meter{{From: 0, Until: 99999}, {From: 99999, Until: 100000}}
	errs(t, "the last day", x.changed(func(x *sample) { x.st.Readings = nil }), api.OK)
}

// P12.1 and P12.6: an interval that begins where a later one ends leaves a history; a reading without an interval does not matter, nor does one of another meter.
func TestCheckUnsat(t *testing.T) {
	x := example()
	for count, want := range map[int]api.Errno{130: api.OK, 97: api.OK, 96: api.OK, 95: api.ErrUnsat, 0: api.ErrUnsat} {
		y := x.changed(func(x *sample) { x.st.Readings[1].Count = count })
		errs(t, fmt.Sprint(count, " on day 8"), y, want)
		y.st.Readings = slices.Insert(y.st.Readings, 1, api.Reading{Day: 5, Count: 98})
		errs(t, fmt.Sprint(count, " on day 8, between them 98"), y, want)
		y.recalls = []api.Recall{{Scale: 0, Since: 8}}
		errs(t, fmt.Sprint(count, " on day 8, recalled"), y, api.OK)
		y.certs[0].Until, y.recalls = 7, nil
		errs(t, fmt.Sprint(count, " on day 8, without a certificate"), y, api.OK)
		y = x.changed(func(x *sample) {
			x.st.Meters = []api.Meter{{From: 0, Until: 5}, {From: 5, Until: 10}}
			x.st.Readings[1] = api.Reading{Meter: 1, Day: 8, Count: count}
		})
		errs(t, fmt.Sprint(count, " on day 8, of another meter"), y, api.OK)
	}
}

// P12.2

// lowest returns the history of a sample whose values are the least ones, if there is a history.
func lowest(x sample) [][]api.Frac {
	h := make([][]api.Frac, len(x.st.Meters))
	for i, m := range x.st.Meters {
		lows := map[int]api.Frac{}
		for _, r := range x.st.Readings {
			if low, _, ok := interval(x, r); ok && r.Meter == i {
				lows[r.Day] = low
			}
		}
		value := frac.Int(0)
		for day := m.From; day <= m.Until; day++ {
			if low, ok := lows[day]; ok && frac.Compare(low, value) > 0 {
				value = low
			}
			h[i] = append(h[i], value)
		}
	}
	return h
}

// history returns a history; blanks separate values, semicolons meters.
func history(s string) [][]api.Frac {
	var h [][]api.Frac
	for _, part := range strings.Split(s, ";") {
		var l []api.Frac
		for _, value := range strings.Fields(part) {
			l = append(l, written(value))
		}
		h = append(h, l)
	}
	return h
}

func TestAllowed(t *testing.T) {
	x := sample{
		st:    api.Station{Name: "a", Meters: []api.Meter{{Scale: 1, From: 4, Until: 7}, {Scale: 2, From: 7, Until: 8}}, Readings: []api.Reading{{Day: 4, Count: 3}, {Day: 6, Count: 10}, {Meter: 1, Day: 8, Count: 2}}},
		certs: []api.Cert{{Scale: 1, From: 6, Until: 9, Units: 1, PerMille: 100}, {Scale: 2, Until: 9, Units: 5}},
	}
	for s, want := range map[string]bool{
		"0 0 8 8;0 0": true, "0 0 12 12;0 7": true, "5 6 10 1000000000000000000000000000000;7 7": true, "1/3 1/2 17/2 26/3;0 1/1000": true, "12 12 12 12;0 0": true, "9 9 9 9;3 3": true,
		"0 0 7 8;0 0": false, "0 0 799999/100000 8;0 0": false, "0 0 13 13;0 0": false, "0 0 1200001/100000 13;0 0": false, "0 0 8 8;0 8": false, "0 0 8 8;0 700001/100000": false,
		"1 0 8 8;0 0": false, "0 9 8 8;0 0": false, "0 0 9 8;0 0": false, "0 0 8 8;1 0": false, "1/2 1/3 8 8;0 0": false, "-1 0 8 8;0 0": false, "-1/1000 0 8 8;0 0": false, "0 0 8 8;-1 0": false, "-2 -1 8 8;0 0": false,
		"0 0 8;0 0": false, "0 0 8 8 8;0 0": false, "0 0 8 8;0": false, "0 0 8 8;0 0 0": false, "0 0 8 8": false, "0 0 8 8;0 0;0 0": false, "0 0 8 8;0 0;": false, ";0 0": false, "0 0 8 8;": false, ";": false, "": false, "0 0;0 0 8 8": false, "0 0 8;8 0 0": false,
	} {
		if x.allowed(history(s)) != want {
			t.Errorf("the history %q is allowed: %v", s, !want)
		}
	}
	if x.allowed(nil) || x.allowed([][]api.Frac{}) || x.allowed([][]api.Frac{nil, nil}) || x.allowed(make([][]api.Frac, 1000)) {
		t.Error("a history without values is allowed")
	}
	free := x.changed(func(x *sample) { x.certs[0].Scale = 9 })
	if !free.allowed(history("0 0 7 7;0 0")) || free.allowed(history("0 0 7 7;0 8")) {
		t.Error("a reading without an interval restricts a history, or one with an interval does not")
	}
	recalled := x.changed(func(x *sample) { x.recalls = []api.Recall{{Scale: 1, Since: 6}} })
	if !recalled.allowed(history("0 0 7 7;0 0")) || !recalled.allowed(history("0 0 13 13;0 0")) {
		t.Error("a reading of a scale that is recalled restricts a history")
	}
}

// P12.2: the values are valid fractions.
func TestAllowedValuesAreValid(t *testing.T) {
	x := example()
	h := lowest(x)
	if !x.allowed(h) {
		t.Fatal("the lowest history is not allowed")
	}
	bad := []api.Frac{{}, ratio(2, 2), ratio(200, 2), ratio(0, 2), ratio(1, 0), ratio(0, 0), ratio(-100, -1), {P: frac.Int(100).P}, {P: api.Big{Sign: 1, Digits: []int{100, 0}}, Q: frac.Int(1).P}, {P: api.Big{Sign: 2, Digits: []int{100}}, Q: frac.Int(1).P}, {P: api.Big{Sign: 1, Digits: []int{-5}}, Q: frac.Int(1).P}, {P: api.Big{Sign: 1, Digits: []int{1 << 20}}, Q: frac.Int(1).P}}
	for day := range h[0] {
		for _, f := range bad {
			l := slices.Clone(h[0])
			l[day] = f
			if x.allowed([][]api.Frac{l}) {
				t.Errorf("%v on day %d is allowed", f, day)
			}
		}
	}
	if x.allowed([][]api.Frac{make([]api.Frac, 11)}) {
		t.Error("zero values are allowed")
	}
}

// P12.2: a station without meters has one history; one that is not well-formed has none.
func TestAllowedOfStations(t *testing.T) {
	x := sample{st: api.Station{Name: "a"}}
	if !x.allowed(nil) || !x.allowed([][]api.Frac{}) || x.allowed([][]api.Frac{{}}) {
		t.Error("a station without meters")
	}
	x.st.Name = "1"
	if x.allowed(nil) {
		t.Error("a station without a name has a history")
	}
	x = three()
	h := lowest(x)
	if !x.allowed(h) {
		t.Error("the lowest history is not allowed")
	}
	for _, change := range []func(x *sample){
		func(x *sample) { x.st.Name = "" }, func(x *sample) { x.st.Meters[0].Scale = -1 }, func(x *sample) { x.st.Readings[3].Count = -1 }, func(x *sample) { x.certs = append(x.certs, make([]api.Cert, 96)...) }, func(x *sample) { x.recalls = append(x.recalls, make([]api.Recall, 29)...) },
		func(x *sample) { x.st.Readings[4].Day = 8 }, func(x *sample) { x.st.Meters[2].Until = 100001 }, func(x *sample) { x.st.Readings[2].Count = 33 },
	} {
		if x.changed(change).allowed(h) {
			t.Error("a station that is not well-formed has a history")
		}
	}
}

// P12.3

func TestBetween(t *testing.T) {
	x := three()
	for _, c := range []struct {
		from, to  int
		low, high string
	}{
		// The first meter; on day 8 the second one is there too, and counts nothing yet.
		{3, 3, "0", "0"}, {3, 4, "0", "69/2"}, {3, 5, "51/2", "69/2"}, {3, 6, "51/2", "89/2"}, {3, 7, "51/2", "89/2"}, {3, 8, "71/2", "89/2"}, {4, 4, "0", "0"}, {4, 5, "0", "69/2"}, {4, 8, "4", "89/2"}, {5, 6, "0", "16"}, {5, 8, "4", "16"}, {6, 7, "0", "16"}, {7, 8, "0", "16"}, {8, 8, "0", "0"},
		// The second meter shows 1 on day 9, and so at most 1 on day 8.
		{8, 9, "0", "1"}, {3, 9, "71/2", "91/2"}, {7, 9, "0", "17"}, {9, 9, "0", "0"},
		// The third meter, which may have begun with any number up to 102.
		{9, 10, "0", "102"}, {9, 12, "0", "102"}, {12, 12, "0", "0"}, {12, 13, "0", "105"}, {12, 19, "0", "105"}, {12, 20, "95", "105"}, {13, 20, "0", "105"}, {9, 20, "95", "203"}, {20, 20, "0", "0"},
		{3, 20, "261/2", "497/2"}, {8, 12, "0", "103"}, {5, 12, "4", "119"}, {6, 20, "95", "220"},
	} {
		spans(t, x, c.from, c.to, c.low, c.high, api.OK)
	}
}

// P12.3 and P2: of the errors of Between the first one is returned.
func TestBetweenErrors(t *testing.T) {
	x := three()
	for _, days := range [][2]int{{8, 3}, {20, 19}, {4, 3}, {100, 99}, {0, -1}, {5, 2}, {21, 3}, {math.MaxInt, math.MinInt}, {1, math.MinInt}, {math.MaxInt, 5}} {
		spans(t, x, days[0], days[1], "", "", api.ErrArg)
	}
	for _, days := range [][2]int{{2, 3}, {2, 2}, {-1, 5}, {3, 21}, {20, 21}, {21, 21}, {21, 22}, {0, 100000}, {math.MinInt, math.MaxInt}, {math.MinInt, 4}, {4, math.MaxInt}, {math.MinInt, math.MinInt}, {math.MaxInt, math.MaxInt}} {
		spans(t, x, days[0], days[1], "", "", api.ErrNone)
	}
	none := sample{st: api.Station{Name: "a"}}
	for _, day := range []int{0, -1, 100000, math.MinInt, math.MaxInt} {
		spans(t, none, day, day, "", "", api.ErrNone)
	}
	spans(t, none, 1, 0, "", "", api.ErrArg)
	spans(t, none, 0, 1, "", "", api.ErrNone)
	// Without any reading, all that is not covered is still ErrNone.
	x.st.Readings = nil
	spans(t, x, 3, 21, "", "", api.ErrNone)
	spans(t, x, 2, 20, "", "", api.ErrNone)
	spans(t, x, 3, 20, "", "", api.ErrFree)
}

// P12.3: there is no greatest number, if one meter that is there on two of the days has no interval from the last of them on.
func TestBetweenWithoutBound(t *testing.T) {
	x := example()
	for _, days := range [][2]int{{2, 9}, {0, 9}, {8, 9}, {9, 10}, {0, 10}} {
		spans(t, x, days[0], days[1], "", "", api.ErrFree)
	}
	for _, day := range []int{0, 2, 5, 8, 9, 10} {
		spans(t, x, day, day, "0", "0", api.OK)
	}
	recalled := x.changed(func(x *sample) { x.recalls = []api.Recall{{Scale: 0, Since: 8}} })
	spans(t, recalled, 0, 2, "0", "102", api.OK)
	spans(t, recalled, 2, 3, "", "", api.ErrFree)
	spans(t, recalled, 2, 8, "", "", api.ErrFree)
	recalled.recalls[0].Since = 9
	spans(t, recalled, 2, 8, "26", "34", api.OK)
	first := x.changed(func(x *sample) { x.certs[0].Until = 7 })
	spans(t, first, 0, 2, "0", "102", api.OK)
	spans(t, first, 0, 8, "", "", api.ErrFree)
	later := x.changed(func(x *sample) { x.certs[0].From = 3 })
	spans(t, later, 0, 2, "0", "132", api.OK)
	spans(t, later, 2, 8, "0", "132", api.OK)
	// A meter that has no interval at all: the others do not help.
	y := three().changed(func(x *sample) { x.recalls = append(x.recalls, api.Recall{Scale: 6}) })
	spans(t, y, 8, 9, "", "", api.ErrFree)
	spans(t, y, 3, 20, "", "", api.ErrFree)
	spans(t, y, 3, 8, "71/2", "89/2", api.OK)
	spans(t, y, 9, 20, "95", "203", api.OK)
	spans(t, y, 8, 8, "0", "0", api.OK)
	spans(t, y, 9, 9, "0", "0", api.OK)
}

// P12.4, and the rules P3 and P4

// digits returns the digits of a span.
func digits(s api.Span) [][]int {
	return [][]int{s.Low.P.Digits, s.Low.Q.Digits, s.High.P.Digits, s.High.Q.Digits}
}

// fill gives each element of a slice a value, also those beyond its length.
func fill(s []int, n int) {
	s = s[:cap(s)]
	for i := range s {
		s[i] = n
	}
}

// full reports whether all elements of a slice have a value, also those beyond its length.
func full(s []int, n int) bool {
	return !slices.ContainsFunc(s[:cap(s)], func(d int) bool { return d != n })
}

// samples are samples for the tests of memory; some have errors.
func samples() []sample {
	l := []sample{example(), three(), {}, {st: api.Station{Name: "a"}}, three().changed(func(x *sample) { x.st.Readings[2].Count = 33 }), three().changed(func(x *sample) { x.certs = x.certs[:3] }), three().changed(func(x *sample) { x.st.Readings = x.st.Readings[:1] })}
	for _, b := range bends() {
		l = append(l, three().changed(b[0].change))
	}
	return l
}

func TestResultsShareNoMemory(t *testing.T) {
	for _, x := range samples() {
		for from := range 21 {
			for to := from; to < 21; to++ {
				a, _ := x.between(from, to)
				b, _ := x.between(from, to)
				slots := append(digits(a), digits(b)...)
				for i, slot := range slots {
					fill(slot, i)
				}
				for i, slot := range slots {
					if !full(slot, i) {
						t.Fatal("two results share memory")
					}
				}
			}
		}
	}
}

// longer returns a sample with the same elements, and what lies beyond the length of its slices.
func longer(x sample) sample {
	y := x.clone()
	y.st.Meters = append(y.st.Meters, api.Meter{Scale: 4, From: 20, Until: 30}, api.Meter{Scale: -1})[:len(x.st.Meters)]
	y.st.Readings = append(y.st.Readings, api.Reading{Meter: 2, Day: 20, Count: 1}, api.Reading{Meter: -1})[:len(x.st.Readings)]
	y.certs = append(y.certs, api.Cert{Scale: 4, From: 20, Until: 20}, api.Cert{Scale: 4, Until: 100000, Units: 7})[:len(x.certs)]
	y.recalls = append(y.recalls, api.Recall{Scale: 4}, api.Recall{Scale: 0})[:len(x.recalls)]
	return y
}

// all returns a sample with what lies beyond the length of its slices.
func all(x sample) sample {
	room := func(n int) int { return n + 2 }
	x.st.Meters, x.st.Readings = x.st.Meters[:room(len(x.st.Meters))], x.st.Readings[:room(len(x.st.Readings))]
	x.certs, x.recalls = x.certs[:room(len(x.certs))], x.recalls[:room(len(x.recalls))]
	return x
}

// Results depend on the arguments alone: not on what was done with earlier results, nor on what lies beyond the length of a slice. Arguments stay as they are.
func TestTheSameCallsReturnTheSame(t *testing.T) {
	for _, x := range samples() {
		y := longer(x)
		before := all(y).clone()
		if x.check() != y.check() {
			t.Fatalf("another error with room beyond the slices: %d and %d", x.check(), y.check())
		}
		for _, days := range [][2]int{{3, 8}, {8, 3}, {2, 3}, {3, 20}, {0, 8}, {9, 9}, {19, 20}, {12, 20}, {20, 30}} {
			a, e := x.between(days[0], days[1])
			text := spell(a)
			for _, slot := range digits(a) {
				fill(slot, 7)
			}
			b, f := y.between(days[0], days[1])
			if e != f || spell(b) != text {
				t.Fatalf("from %d to %d: %s and %d, then %s and %d", days[0], days[1], text, e, spell(b), f)
			}
		}
		if !all(y).equal(before) {
			t.Fatalf("an argument has changed: %v", y)
		}
	}
}

// Allowed changes no value, and reads none beyond the length of a list.
func TestAllowedLeavesHistories(t *testing.T) {
	for _, x := range samples() {
		h := lowest(three())
		if x.check() == api.OK {
			h = lowest(x)
		}
		want := x.allowed(h)
		room := make([][]api.Frac, len(h), len(h)+2)
		var texts []string
		for i, l := range h {
			room[i] = append(slices.Clone(l), api.Frac{}, frac.Int(-1))[:len(l)]
			for _, f := range l {
				texts = append(texts, frac.Text(f))
			}
		}
		room[:len(h)+1][len(h)] = []api.Frac{{}}
		if x.allowed(room) != want {
			t.Fatal("what lies beyond a history has an effect")
		}
		for i, l := range room {
			for _, f := range l {
				if frac.Text(f) != texts[0] {
					t.Fatal("a value has changed")
				}
				texts = texts[1:]
			}
			if !frac.Same(room[i][:len(l)+1][len(l)], api.Frac{}) {
				t.Fatal("what lies beyond a list has changed")
			}
		}
	}
}

// P1: all functions return for all arguments; nothing but the definitions decides what they return.

// verdict is what Check returns, by the words of the chapter and P12.6.
func verdict(x sample) api.Errno {
	if x.st.Name != "a" {
		return api.ErrName
	}
	if len(x.st.Meters) > 20 || len(x.st.Readings) > 400 || len(x.certs) > 100 || len(x.recalls) > 30 {
		return api.ErrFull
	}
	for i, m := range x.st.Meters {
		switch {
		case m.Scale < 0:
			return api.ErrArg
		case !(0 <= m.From && m.From < m.Until && m.Until <= 100000), i > 0 && m.From != x.st.Meters[i-1].Until:
			return api.ErrDay
		}
	}
	for i, r := range x.st.Readings {
		if r.Meter < 0 || r.Meter >= len(x.st.Meters) || r.Count < 0 || r.Count > 1<<40 {
			return api.ErrArg
		}
		if m := x.st.Meters[r.Meter]; r.Day < m.From || r.Day > m.Until {
			return api.ErrDay
		}
		if i > 0 {
			before := x.st.Readings[i-1]
			if !(r.Meter > before.Meter || r.Meter == before.Meter && r.Day > before.Day) {
				return api.ErrTwice
			}
		}
	}
	for i, r := range x.st.Readings {
		low, _, ok := interval(x, r)
		for _, s := range x.st.Readings[i:] {
			_, high, later := interval(x, s)
			if ok && later && s.Meter == r.Meter && frac.Compare(low, high) > 0 {
				return api.ErrUnsat
			}
		}
	}
	return api.OK
}

// interval returns the interval of a reading of a sample.
func interval(x sample, r api.Reading) (low, high api.Frac, ok bool) {
	return scale.Interval(x.certs, x.recalls, x.st.Meters[r.Meter].Scale, r.Count, r.Day)
}

// unbounded reports whether a meter that is there on two of the days has no interval from the last of them on.
func unbounded(x sample, from, to int) bool {
	for i, m := range x.st.Meters {
		first, last := max(from, m.From), min(to, m.Until)
		bounds := slices.ContainsFunc(x.st.Readings, func(r api.Reading) bool {
			_, _, ok := interval(x, r)
			return ok && r.Meter == i && r.Day >= last
		})
		if first < last && !bounds {
			return true
		}
	}
	return false
}

// outcome is the error of Between, by the words of the chapter.
func outcome(x sample, from, to int) api.Errno {
	if e := verdict(x); e != api.OK {
		return e
	}
	n := len(x.st.Meters)
	switch {
	case from > to:
		return api.ErrArg
	case n == 0 || from < x.st.Meters[0].From || to > x.st.Meters[n-1].Until:
		return api.ErrNone
	case unbounded(x, from, to):
		return api.ErrFree
	}
	return api.OK
}

// anything returns a sample of odd numbers; many of them are well-formed.
func anything(r *rand.Rand) sample {
	odd := []int{math.MinInt, -1, 100001, 1<<40 + 1, math.MaxInt, 1 << 40, 100000}
	at := func(n int) int {
		if r.IntN(60) == 0 {
			return odd[r.IntN(len(odd))]
		}
		return n
	}
	x := sample{st: api.Station{Name: "a"}}
	day := r.IntN(3)
	for range r.IntN(4) {
		m := api.Meter{Scale: at(r.IntN(2)), From: at(day), Until: at(day + 1 + r.IntN(4))}
		x.st.Meters, day = append(x.st.Meters, m), m.Until
		for d, count := m.From, r.IntN(20); d <= m.Until && d-m.From < 5; d++ {
			if r.IntN(2) == 0 {
				x.st.Readings = append(x.st.Readings, api.Reading{Meter: at(len(x.st.Meters) - 1), Day: at(d), Count: at(count + r.IntN(6))})
			}
			count += r.IntN(6)
		}
	}
	for range r.IntN(4) {
		x.certs = append(x.certs, api.Cert{Scale: at(r.IntN(2)), From: at(0), Until: at(r.IntN(30)), Units: at(r.IntN(3)), PerMille: at(0), Drift: at(0)})
	}
	for range r.IntN(2) {
		x.recalls = append(x.recalls, api.Recall{Scale: at(r.IntN(3)), Since: at(r.IntN(10))})
	}
	if r.IntN(60) == 0 {
		x.st.Name = ""
	}
	if n := len(x.st.Readings); n > 1 && r.IntN(20) == 0 {
		i := 1 + r.IntN(n-1)
		x.st.Readings[i-r.IntN(2)].Day, x.st.Readings[i].Meter = x.st.Readings[i].Day, x.st.Readings[i-1].Meter
	}
	return x
}

func TestAllArguments(t *testing.T) {
	r := rand.New(rand.NewPCG(12, 0))
	days := []int{math.MinInt, -1, 0, 1, 2, 3, 4, 5, 7, 9, 100000, math.MaxInt}
	checked, between, histories := map[api.Errno]int{}, map[api.Errno]int{}, 0
	for range 8000 {
		x := anything(r)
		want := verdict(x)
		checked[want]++
		if e := x.check(); e != want {
			t.Fatalf("Check of %v is %d, want %d", x, e, want)
		}
		for range 4 {
			from, to := days[r.IntN(len(days))], days[r.IntN(len(days))]
			want := outcome(x, from, to)
			between[want]++
			s, e := x.between(from, to)
			if e != want || zero(s) != (e != api.OK) {
				t.Fatalf("Between of %v, %d and %d is %v and %d, want %d", x, from, to, s, e, want)
			}
		}
		if x.allowed([][]api.Frac{make([]api.Frac, r.IntN(5))}) || x.allowed(make([][]api.Frac, 1+r.IntN(3))) {
			t.Fatalf("zero values are a history of %v", x)
		}
		if x.allowed(nil) != (want == api.OK && len(x.st.Meters) == 0) {
			t.Fatalf("no value is a history of %v", x)
		}
		if want == api.OK && len(x.st.Meters) > 0 {
			histories++
			if h := lowest(x); !x.allowed(h) {
				t.Fatalf("the lowest history of %v is not allowed", x)
			}
		}
	}
	for _, e := range []api.Errno{api.OK, api.ErrName, api.ErrArg, api.ErrDay, api.ErrTwice, api.ErrUnsat} {
		if checked[e] < 50 {
			t.Errorf("Check returned the error %d only %d times", e, checked[e])
		}
	}
	for _, e := range []api.Errno{api.OK, api.ErrArg, api.ErrNone, api.ErrFree} {
		if between[e] < 500 {
			t.Errorf("Between returned the error %d only %d times", e, between[e])
		}
	}
	if histories < 500 {
		t.Errorf("only %d stations had a history", histories)
	}
}
