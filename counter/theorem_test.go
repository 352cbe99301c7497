package counter_test

import (
	"math/rand/v2"
	"slices"
	"testing"

	"kitbag/api"
	"kitbag/frac"
	"kitbag/scale"
	"kitbag/span"
)

// random returns a random sample without an error but perhaps ErrUnsat: up to three meters that count a few days each, of up to two scales.
func random(r *rand.Rand) sample {
	x := sample{st: api.Station{Name: "a"}}
	day := r.IntN(4)
	for i := range 1 + r.IntN(3) {
		m := api.Meter{Scale: r.IntN(2), From: day, Until: day + 1 + r.IntN(3)}
		x.st.Meters, day = append(x.st.Meters, m), m.Until
		count := r.IntN(30)
		for d := m.From; d <= m.Until; d++ {
			if r.IntN(5) == 0 {
				count = r.IntN(30) // what it shows may fall
			}
			if r.IntN(3) > 0 {
				x.st.Readings = append(x.st.Readings, api.Reading{Meter: i, Day: d, Count: max(0, count+r.IntN(5)-2)})
			}
			count += r.IntN(9)
		}
	}
	for range 1 + r.IntN(5) {
		from := r.IntN(7)
		x.certs = append(x.certs, api.Cert{Scale: r.IntN(2), From: from, Until: from + r.IntN(16), Units: r.IntN(5), PerMille: r.IntN(2) * r.IntN(100), Drift: r.IntN(2) * r.IntN(3)})
	}
	if r.IntN(4) == 0 {
		x.recalls = append(x.recalls, api.Recall{Scale: r.IntN(3), Since: r.IntN(12)})
	}
	return x
}

// consistent returns a random sample with a history.
func consistent(r *rand.Rand) sample {
	for {
		if x := random(r); x.check() == api.OK {
			return x
		}
	}
}

// candidates are the numbers that decide what is possible: 0, all ends of intervals, and one that is greater than they are.
func candidates(x sample) []api.Frac {
	l := []api.Frac{frac.Int(0), huge()}
	for _, r := range x.st.Readings {
		if low, high, ok := interval(x, r); ok {
			l = append(l, low, high)
		}
	}
	slices.SortFunc(l, frac.Compare)
	return slices.CompactFunc(l, frac.Same)
}

// huge is greater than all ends of intervals of random samples.
func huge() api.Frac { return frac.Int(1000000) }

// rows calls visit with each list of values of a meter, by the definition of a history, whose values are candidates.
func rows(x sample, i int, visit func(l []api.Frac)) {
	m := x.st.Meters[i]
	all := candidates(x)
	fits := func(day int, v api.Frac) bool {
		for _, r := range x.st.Readings {
			low, high, ok := interval(x, r)
			if ok && r.Meter == i && r.Day == day && (frac.Compare(v, low) < 0 || frac.Compare(v, high) > 0) {
				return false
			}
		}
		return true
	}
	var extend func(l []api.Frac, least int)
	extend = func(l []api.Frac, least int) {
		if len(l) == m.Until-m.From+1 {
			visit(l)
			return
		}
		for k := least; k < len(all); k++ {
			if fits(m.From+len(l), all[k]) {
				extend(append(l, all[k]), k)
			}
		}
	}
	extend(nil, 0)
}

// sum returns the sum of two fractions.
func sum(a, b api.Frac) api.Frac {
	c, _ := frac.Add(a, b)
	return c
}

// less returns the difference of two fractions.
func less(a, b api.Frac) api.Frac {
	c, _ := frac.Sub(a, b)
	return c
}

// counts returns what one meter counts from one day to another in a list of values, by the definition.
func counts(m api.Meter, l []api.Frac, from, to int) api.Frac {
	first, last := -1, -1
	for day := max(from, m.From); day <= min(to, m.Until); day++ {
		if first < 0 {
			first = day
		}
		last = day
	}
	if first < 0 {
		return frac.Int(0)
	}
	return less(l[last-m.From], l[first-m.From])
}

// total returns what is counted in a history.
func total(x sample, h [][]api.Frac, from, to int) api.Frac {
	all := frac.Int(0)
	for i, m := range x.st.Meters {
		all = sum(all, counts(m, h[i], from, to))
	}
	return all
}

// extremes are histories with the least and the greatest number that is counted.
type extremes struct {
	least, greatest [][]api.Frac
	some            bool
}

// search returns extremes for two days: meter by meter, by trying all lists of candidates.
func search(x sample, from, to int) extremes {
	e := extremes{some: true}
	for i, m := range x.st.Meters {
		var least, greatest []api.Frac
		rows(x, i, func(l []api.Frac) {
			n := counts(m, l, from, to)
			if least == nil || frac.Compare(n, counts(m, least, from, to)) < 0 {
				least = slices.Clone(l)
			}
			if greatest == nil || frac.Compare(n, counts(m, greatest, from, to)) > 0 {
				greatest = slices.Clone(l)
			}
		})
		if least == nil {
			return extremes{}
		}
		e.least, e.greatest = append(e.least, least), append(e.greatest, greatest)
	}
	return e
}

// P12.5: the ends of a span are counted in histories, and no history counts less or more; where there is no greatest number, a history counts any number. P12.6: all searches fail if and only if Check returns ErrUnsat.
func TestSpansAreExact(t *testing.T) {
	r := rand.New(rand.NewPCG(12, 1))
	bounded, free, unsat := 0, 0, 0
	for range 400 {
		x := random(r)
		last := x.st.Meters[len(x.st.Meters)-1].Until
		from := x.st.Meters[0].From + r.IntN(last-x.st.Meters[0].From+1)
		to := from + r.IntN(last-from+1)
		found := search(x, from, to)
		s, e := x.between(from, to)
		if !found.some {
			unsat++
			if e != api.ErrUnsat || x.check() != api.ErrUnsat {
				t.Fatalf("no history of %v is found: %d", x, e)
			}
			continue
		}
		if !x.allowed(found.least) || !x.allowed(found.greatest) {
			t.Fatalf("a history of %v is not allowed", x)
		}
		most := total(x, found.greatest, from, to)
		if frac.Compare(most, huge()) > 0 || unbounded(x, from, to) {
			free++
			if e != api.ErrFree {
				t.Fatalf("from %d to %d of %v: %s and %d", from, to, x, spell(s), e)
			}
			continue
		}
		bounded++
		if e != api.OK || !frac.Same(s.Low, total(x, found.least, from, to)) || !frac.Same(s.High, most) {
			t.Fatalf("from %d to %d of %v: %s and %d, found %s to %s", from, to, x, spell(s), e, frac.Text(total(x, found.least, from, to)), frac.Text(most))
		}
	}
	if bounded < 80 || free < 80 || unsat < 30 {
		t.Errorf("%d spans are bounded, %d are not, %d have no history", bounded, free, unsat)
	}
}

// above returns a random fraction that is not less than another one, and at most a third one, if there is one.
func above(r *rand.Rand, low api.Frac, high api.Frac, bounded bool) api.Frac {
	if !bounded {
		high = sum(low, frac.Int(r.IntN(50)))
	}
	part, _ := frac.Of(r.IntN(8), 7)
	step, _ := frac.Mul(less(high, low), part)
	return sum(low, step)
}

// some returns a random history of a sample that has one: day by day, a value from the one before to the least upper end of what comes.
func some(r *rand.Rand, x sample) [][]api.Frac {
	h := make([][]api.Frac, len(x.st.Meters))
	for i, m := range x.st.Meters {
		value := frac.Int(0)
		for day := m.From; day <= m.Until; day++ {
			high, bounded := api.Frac{}, false
			for _, k := range x.st.Readings {
				low, up, ok := interval(x, k)
				if !ok || k.Meter != i || k.Day < day {
					continue
				}
				if k.Day == day && frac.Compare(low, value) > 0 {
					value = low
				}
				if !bounded || frac.Compare(up, high) < 0 {
					high, bounded = up, true
				}
			}
			value = above(r, value, high, bounded)
			h[i] = append(h[i], value)
		}
	}
	return h
}

// P12.5 and P12.7: what is counted in a history is not negative, and lies in the span.
func TestEveryHistoryLiesInTheSpan(t *testing.T) {
	r := rand.New(rand.NewPCG(12, 2))
	inside := 0
	for range 600 {
		x := consistent(r)
		h := some(r, x)
		if !x.allowed(h) {
			t.Fatalf("a history of %v is not allowed: %v", x, h)
		}
		first, last := x.st.Meters[0].From, x.st.Meters[len(x.st.Meters)-1].Until
		for from := first; from <= last; from++ {
			for to := from; to <= last; to++ {
				n := total(x, h, from, to)
				if frac.Sign(n) < 0 {
					t.Fatalf("from %d to %d of %v: %s is counted", from, to, x, frac.Text(n))
				}
				s, e := x.between(from, to)
				if e == api.ErrFree {
					continue
				}
				if e != api.OK || !span.Has(s, n) {
					t.Fatalf("from %d to %d of %v: %s is counted, not in %s", from, to, x, frac.Text(n), spell(s))
				}
				inside++
			}
		}
	}
	if inside < 2000 {
		t.Errorf("only %d spans", inside)
	}
}

// P12.2, by the definition: a list of values that is changed a little is allowed if it is still a history.
func TestAllowedIsTheDefinition(t *testing.T) {
	r := rand.New(rand.NewPCG(12, 3))
	yes, no := 0, 0
	for range 3000 {
		x := consistent(r)
		h := some(r, x)
		for range 1 + r.IntN(2) {
			i := r.IntN(len(h))
			day := r.IntN(len(h[i]))
			step, _ := frac.Of(r.IntN(41)-20, 1+r.IntN(3))
			h[i][day] = sum(h[i][day], step)
		}
		want := true
		for i, m := range x.st.Meters {
			for k, v := range h[i] {
				if frac.Sign(v) < 0 || k > 0 && frac.Compare(h[i][k-1], v) > 0 {
					want = false
				}
			}
			for _, k := range x.st.Readings {
				low, high, ok := interval(x, k)
				if ok && k.Meter == i && !span.Has(api.Span{Low: low, High: high}, h[i][k.Day-m.From]) {
					want = false
				}
			}
		}
		if want {
			yes++
		} else {
			no++
		}
		if x.allowed(h) != want {
			t.Fatalf("%v is allowed by %v: %v", h, x, !want)
		}
	}
	if yes < 300 || no < 300 {
		t.Errorf("%d lists are histories, %d are not", yes, no)
	}
}

// P12.6: there is a history exactly if no interval begins after the end of that of a later reading of the same meter.
func TestHistoriesExist(t *testing.T) {
	r := rand.New(rand.NewPCG(12, 4))
	met := map[api.Errno]int{}
	for range 4000 {
		x := random(r)
		want := verdict(x)
		met[want]++
		if e := x.check(); e != want {
			t.Fatalf("Check of %v is %d, want %d", x, e, want)
		}
		if want == api.OK && !x.allowed(lowest(x)) {
			t.Fatalf("the lowest history of %v is not allowed", x)
		}
	}
	if len(met) != 2 || met[api.OK] < 500 || met[api.ErrUnsat] < 200 {
		t.Errorf("not all cases are met: %v", met)
	}
}

// P12.7: the span of days lies within the sum of the spans of their parts; from a day to itself nothing is counted.
func TestSpansOfParts(t *testing.T) {
	r := rand.New(rand.NewPCG(12, 5))
	sums, tighter := 0, 0
	for range 400 {
		x := consistent(r)
		first, last := x.st.Meters[0].From, x.st.Meters[len(x.st.Meters)-1].Until
		for a := first; a <= last; a++ {
			if s, e := x.between(a, a); e != api.OK || frac.Sign(s.Low) != 0 || frac.Sign(s.High) != 0 {
				t.Fatalf("from %d to itself: %s and %d", a, spell(s), e)
			}
			for b := a; b <= last; b++ {
				for c := b; c <= last; c++ {
					one, e := x.between(a, b)
					two, f := x.between(b, c)
					whole, g := x.between(a, c)
					if e != api.OK || f != api.OK {
						continue // then there is no sum
					}
					parts, _ := span.Add(one, two)
					if g != api.OK || !span.Inside(whole, parts) || frac.Sign(whole.Low) < 0 {
						t.Fatalf("the days %d, %d, %d of %v: %s and %d, the parts %s", a, b, c, x, spell(whole), g, spell(parts))
					}
					sums++
					if !span.Same(whole, parts) {
						tighter++
					}
				}
			}
		}
	}
	if sums < 5000 || tighter < 500 {
		t.Errorf("%d sums, %d of them are wider", sums, tighter)
	}
}

// wider reports whether what Between returns for one sample is at least as wide as for another one.
func wider(t *testing.T, x, y sample) (strictly bool) {
	t.Helper()
	first, last := x.st.Meters[0].From, x.st.Meters[len(x.st.Meters)-1].Until
	for from := first; from <= last; from++ {
		for to := from; to <= last; to++ {
			a, e := x.between(from, to)
			b, f := y.between(from, to)
			if e == api.ErrFree {
				strictly = strictly || f == api.OK
				continue
			}
			if e != api.OK || f != api.OK || !span.Inside(b, a) {
				t.Fatalf("from %d to %d: %s and %d of %v, but %s and %d of %v", from, to, spell(a), e, x, spell(b), f, y)
			}
			strictly = strictly || !span.Same(a, b)
		}
	}
	return strictly
}

// free returns a meter and a day for which there is no reading, and the place for one.
func free(r *rand.Rand, x sample) (at int, k api.Reading, ok bool) {
	i := r.IntN(len(x.st.Meters))
	m := x.st.Meters[i]
	k = api.Reading{Meter: i, Day: m.From + r.IntN(m.Until-m.From+1), Count: r.IntN(60)}
	at, taken := slices.BinarySearchFunc(x.st.Readings, k, func(a, b api.Reading) int {
		if a.Meter != b.Meter {
			return a.Meter - b.Meter
		}
		return a.Day - b.Day
	})
	return at, k, !taken
}

// P12.8: an additional reading, as long as there is a history, makes no span wider.
func TestAdditionalReading(t *testing.T) {
	r := rand.New(rand.NewPCG(12, 6))
	added, narrower := 0, 0
	for range 2000 {
		x := consistent(r)
		at, k, ok := free(r, x)
		if !ok {
			continue
		}
		y := x.changed(func(x *sample) { x.st.Readings = slices.Insert(x.st.Readings, at, k) })
		if y.check() != api.OK {
			continue
		}
		added++
		if wider(t, x, y) {
			narrower++
		}
		if _, _, ok := scale.Interval(x.certs, x.recalls, x.st.Meters[k.Meter].Scale, k.Count, k.Day); !ok && wider(t, y, x) {
			t.Fatalf("a reading without an interval has an effect: %v", k)
		}
	}
	if added < 300 || narrower < 100 {
		t.Errorf("%d readings were added, %d of them had an effect", added, narrower)
	}
}

// P12.8: an additional recall makes no span narrower, and takes no history away.
func TestAdditionalRecall(t *testing.T) {
	r := rand.New(rand.NewPCG(12, 7))
	effect, resolved := 0, 0
	for range 2000 {
		x := random(r)
		y := x.changed(func(x *sample) {
			x.recalls = slices.Insert(x.recalls, r.IntN(len(x.recalls)+1), api.Recall{Scale: r.IntN(3), Since: r.IntN(12)})
		})
		if x.check() != api.OK {
			if y.check() == api.OK {
				resolved++
			}
			continue
		}
		if y.check() != api.OK {
			t.Fatalf("a recall takes all histories away: %v", y)
		}
		if wider(t, y, x) {
			effect++
		}
	}
	if effect < 100 || resolved < 20 {
		t.Errorf("%d recalls had an effect, %d gave a station a history", effect, resolved)
	}
}
