package scale_test

import (
	"math/rand/v2"
	"slices"
	"testing"

	"kitbag/api"
	"kitbag/frac"
	"kitbag/scale"
)

// upTo returns a random int from 0 to a limit; often it is small, or an end.
func upTo(r *rand.Rand, limit int) int {
	switch r.IntN(4) {
	case 0:
		return limit * r.IntN(2)
	case 1:
		return r.IntN(min(limit, 20) + 1)
	}
	return r.IntN(limit + 1)
}

// certificate returns a random valid certificate of one of three scales; many certificates have days in common.
func certificate(r *rand.Rand) api.Cert {
	c := api.Cert{Scale: r.IntN(3), From: r.IntN(12), Units: upTo(r, 1<<40), PerMille: upTo(r, 1000), Drift: upTo(r, 10000000)}
	c.Until = c.From + r.IntN(12)
	if r.IntN(8) == 0 {
		c.Until = api.MaxDay
	}
	return c
}

// spoilt returns a random certificate that is not valid.
func spoilt(r *rand.Rand) api.Cert {
	c := certificate(r)
	switch r.IntN(4) {
	case 0:
		c.Units = -1 - c.Units
	case 1:
		c.PerMille += 1001
	case 2:
		c.Drift = -1
	case 3:
		c.Until = api.MaxDay + 1
	}
	return c
}

// certificates returns random certificates; not all are valid.
func certificates(r *rand.Rand) []api.Cert {
	var l []api.Cert
	for range r.IntN(7) {
		if r.IntN(5) == 0 {
			l = append(l, spoilt(r))
			continue
		}
		l = append(l, certificate(r))
	}
	return l
}

// recalls returns random recalls.
func recalls(r *rand.Rand) []api.Recall {
	var l []api.Recall
	for range r.IntN(3) {
		l = append(l, api.Recall{Scale: r.IntN(4) - 1, Since: r.IntN(40) - 3})
	}
	return l
}

// measured is the result of Interval.
type measured struct {
	low, high api.Frac
	ok        bool
}

// measure returns the result of Interval.
func measure(certs []api.Cert, recalls []api.Recall, of, reading, day int) measured {
	low, high, ok := scale.Interval(certs, recalls, of, reading, day)
	return measured{low, high, ok}
}

// same reports whether two results are the same.
func same(a, b measured) bool {
	return a.ok == b.ok && frac.Same(a.low, b.low) && frac.Same(a.high, b.high)
}

// P11.1, by the definition: a certificate is in force if it covers, and no other one that covers has a greater From, or the same one and a later place.
func TestFindIsTheDefinition(t *testing.T) {
	r := rand.New(rand.NewPCG(11, 1))
	found := 0
	for range 6000 {
		l := certificates(r)
		of, day := r.IntN(4), r.IntN(27)-1
		want, any := 0, false
		for i, c := range l {
			covers := func(c api.Cert) bool { return scale.Right(c) && c.Scale == of && c.From <= day && day <= c.Until }
			beaten := func(k int) bool {
				return covers(l[k]) && (l[k].From > c.From || l[k].From == c.From && k > i)
			}
			if covers(c) && !slices.ContainsFunc(places(l), beaten) {
				want, any = i, true
				found++
			}
		}
		if at, ok := scale.Find(l, of, day); at != want || ok != any {
			t.Fatalf("Find in %v of the scale %d on day %d is %d and %v", l, of, day, at, ok)
		}
	}
	if found < 500 {
		t.Errorf("only %d certificates were in force", found)
	}
}

// places are the indices of a list.
func places(l []api.Cert) (p []int) {
	for i := range l {
		p = append(p, i)
	}
	return p
}

// P11.2, P11.3 and P11.5: the ends are the reading and the error apart; the lower end is not below 0.
func TestIntervalContainsTheReading(t *testing.T) {
	r := rand.New(rand.NewPCG(11, 2))
	atZero, above := 0, 0
	for range 3000 {
		l := []api.Cert{certificate(r)}
		if r.IntN(2) == 0 {
			l[0].Units, l[0].Drift = r.IntN(30), r.IntN(3)
		}
		c, reading := l[0], upTo(r, api.MaxCount)
		day := c.From + r.IntN(c.Until-c.From+1)
		e, ok := scale.Error(c, reading, day)
		if !ok || !is(e, errorOf(c, reading, day)) {
			t.Fatalf("Error of %v, %d and day %d is %s and %v", c, reading, day, frac.Text(e), ok)
		}
		m := measure(l, nil, c.Scale, reading, day)
		if !m.ok || frac.Sign(m.low) < 0 || frac.Compare(m.low, frac.Int(reading)) > 0 || frac.Compare(m.high, frac.Int(reading)) < 0 {
			t.Fatalf("the interval of %v, %d and day %d is %s to %s and %v", c, reading, day, frac.Text(m.low), frac.Text(m.high), m.ok)
		}
		if up, _ := frac.Sub(m.high, frac.Int(reading)); !frac.Same(up, e) {
			t.Fatalf("the upper end of %v, %d and day %d is %s, the error %s", c, reading, day, frac.Text(m.high), frac.Text(e))
		}
		down, _ := frac.Sub(frac.Int(reading), m.low)
		switch {
		case frac.Same(down, e):
			above++
		case frac.Sign(m.low) == 0 && frac.Compare(e, frac.Int(reading)) > 0:
			atZero++
		default:
			t.Fatalf("the lower end of %v, %d and day %d is %s, the error %s", c, reading, day, frac.Text(m.low), frac.Text(e))
		}
	}
	if atZero < 300 || above < 300 {
		t.Errorf("%d lower ends are 0, %d are above", atZero, above)
	}
}

// P11.6: on one day, the ends and the error never fall while the reading rises.
func TestIntervalRisesWithTheReading(t *testing.T) {
	r := rand.New(rand.NewPCG(11, 3))
	for range 2000 {
		l := append(certificates(r), certificate(r))
		c := l[len(l)-1]
		day := c.From + r.IntN(c.Until-c.From+1)
		less := upTo(r, api.MaxCount)
		more := min(less+upTo(r, 3), api.MaxCount)
		if r.IntN(2) == 0 {
			more = less + upTo(r, api.MaxCount-less)
		}
		a, b := measure(l, nil, c.Scale, less, day), measure(l, nil, c.Scale, more, day)
		if !a.ok || !b.ok || frac.Compare(a.low, b.low) > 0 || frac.Compare(a.high, b.high) > 0 {
			t.Fatalf("the intervals of %v, %d and %d on day %d: %v and %v", l, less, more, day, a, b)
		}
		e, _ := scale.Error(c, less, day)
		f, _ := scale.Error(c, more, day)
		if frac.Compare(e, f) > 0 {
			t.Fatalf("the errors of %v, %d and %d on day %d: %s and %s", c, less, more, day, frac.Text(e), frac.Text(f))
		}
	}
}

// P11.6: under one certificate, the error grows by Drift each day.
func TestErrorGrowsByDrift(t *testing.T) {
	r := rand.New(rand.NewPCG(11, 4))
	for range 300 {
		c, reading := certificate(r), upTo(r, api.MaxCount)
		day, e := c.From, api.Frac{}
		if c.Until == api.MaxDay {
			day = api.MaxDay - r.IntN(20)
		}
		e, _ = scale.Error(c, reading, day)
		for day++; day <= c.Until; day++ {
			next, ok := scale.Error(c, reading, day)
			grown, _ := frac.Add(e, frac.Int(c.Drift))
			if !ok || !frac.Same(next, grown) {
				t.Fatalf("the errors of %v and %d before and on day %d: %s and %s", c, reading, day, frac.Text(e), frac.Text(next))
			}
			e = next
		}
	}
}

// P11.7: what other scales have, and certificates that are not in force, have no effect.
func TestWhatIsNotInForceHasNoEffect(t *testing.T) {
	r := rand.New(rand.NewPCG(11, 5))
	for range 3000 {
		l, x := certificates(r), recalls(r)
		of, reading, day := r.IntN(3), upTo(r, api.MaxCount), r.IntN(27)-1
		want := measure(l, x, of, reading, day)
		at, found := scale.Find(l, of, day)
		fewer := slices.DeleteFunc(slices.Clone(x), func(y api.Recall) bool { return y.Scale != of })
		if scale.Recalled(fewer, of, day) != scale.Recalled(x, of, day) || !same(want, measure(l, fewer, of, reading, day)) {
			t.Fatalf("recalls of other scales than %d have an effect: %v", of, x)
		}
		own := slices.DeleteFunc(slices.Clone(l), func(c api.Cert) bool { return c.Scale != of })
		if !same(want, measure(own, x, of, reading, day)) {
			t.Fatalf("certificates of other scales than %d have an effect: %v", of, l)
		}
		if found && !same(want, measure(l[at:at+1], x, of, reading, day)) || !found && !same(want, measure(nil, x, of, reading, day)) {
			t.Fatalf("certificates of the scale %d that are not in force on day %d have an effect: %v", of, day, l)
		}
		// One more somewhere that is not in force: of another scale, not valid, of other days, or from an earlier day.
		other := certificate(r)
		switch k := r.IntN(4); {
		case k == 0:
			other.Scale = of + 1
		case k == 1:
			other = spoilt(r)
		case k == 2 || !found || l[at].From == 0:
			other.From, other.Until = day+1, day+5
		default:
			other.Scale, other.From, other.Until = of, r.IntN(l[at].From), api.MaxDay
		}
		more := slices.Insert(slices.Clone(l), r.IntN(len(l)+1), other)
		if !same(want, measure(more, x, of, reading, day)) {
			t.Fatalf("%v has an effect on the scale %d on day %d: %v", other, of, day, l)
		}
	}
}

// P11.7: a recall removes the interval on its day and on all later days, and on no earlier day.
func TestRecallRemovesTheInterval(t *testing.T) {
	r := rand.New(rand.NewPCG(11, 6))
	removed, kept := 0, 0
	for range 500 {
		l, x := append(certificates(r), certificate(r)), recalls(r)
		of, reading, since := l[len(l)-1].Scale, upTo(r, api.MaxCount), r.IntN(26)-1
		more := slices.Insert(slices.Clone(x), r.IntN(len(x)+1), api.Recall{Scale: of, Since: since})
		for day := -1; day < 27; day++ {
			before, after := measure(l, x, of, reading, day), measure(l, more, of, reading, day)
			if day >= since {
				if after.ok || !scale.Recalled(more, of, day) {
					t.Fatalf("the recall since day %d leaves an interval on day %d", since, day)
				}
				removed++
				continue
			}
			if !same(before, after) || scale.Recalled(more, of, day) != scale.Recalled(x, of, day) {
				t.Fatalf("the recall since day %d has an effect on day %d", since, day)
			}
			if after.ok {
				kept++
			}
		}
	}
	if removed < 500 || kept < 500 {
		t.Errorf("%d days are recalled, %d are not", removed, kept)
	}
}

// P11.7: an additional certificate at the end that is not from an earlier day becomes the one in force.
func TestAdditionalCertificate(t *testing.T) {
	r := rand.New(rand.NewPCG(11, 7))
	sameDay := 0
	for range 3000 {
		l := certificates(r)
		c := certificate(r)
		day, reading := c.From+r.IntN(c.Until-c.From+1), upTo(r, api.MaxCount)
		at, found := scale.Find(l, c.Scale, day)
		if found && l[at].From > c.From {
			c.From = l[at].From + r.IntN(day-l[at].From+1)
		}
		if found && l[at].From == c.From {
			sameDay++
		}
		more := append(slices.Clone(l), c)
		if now, ok := scale.Find(more, c.Scale, day); !ok || now != len(l) {
			t.Fatalf("after %v the certificate in force on day %d is %d and %v in %v", c, day, now, ok, more)
		}
		if !same(measure(more, nil, c.Scale, reading, day), measure([]api.Cert{c}, nil, c.Scale, reading, day)) {
			t.Fatalf("after %v the interval on day %d is not its own in %v", c, day, more)
		}
	}
	if sameDay < 100 {
		t.Errorf("only %d certificates were from the day of another one", sameDay)
	}
}
