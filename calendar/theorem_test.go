package calendar_test

import (
	"math/rand/v2"
	"testing"
	"time"

	"kitbag/api"
	"kitbag/calendar"
)

type date struct{ year, month, dom int }

// earlier reports whether a date comes before another one.
func (a date) earlier(b date) bool {
	if a.year != b.year {
		return a.year < b.year
	}
	if a.month != b.month {
		return a.month < b.month
	}
	return a.dom < b.dom
}

// size returns the number of days of a month, by the words of the chapter.
func size(year, month int) int {
	switch month {
	case 4, 6, 9, 11:
		return 30
	case 2:
		if year%4 == 0 && year%100 != 0 || year%400 == 0 {
			return 29
		}
		return 28
	}
	return 31
}

// next returns the date of the next day.
func (a date) next() date {
	if a.dom < size(a.year, a.month) {
		return date{a.year, a.month, a.dom + 1}
	}
	year, month := nextMonth(a.year, a.month)
	return date{year, month, 1}
}

// moved returns the date some months later; the months are counted one by one.
func (a date) moved(months int) date {
	for ; months > 0; months-- {
		a.year, a.month = nextMonth(a.year, a.month)
	}
	for ; months < 0; months++ {
		a.year, a.month = monthBefore(a.year, a.month)
	}
	a.dom = min(a.dom, size(a.year, a.month))
	return a
}

func nextMonth(year, month int) (int, int) {
	if month == 12 {
		return year + 1, 1
	}
	return year, month + 1
}

func monthBefore(year, month int) (int, int) {
	if month == 1 {
		return year - 1, 12
	}
	return year, month - 1
}

// walk returns the date of each day, and the day of each date: the days are counted one by one.
func walk() ([]date, map[date]int) {
	var dates []date
	days := map[date]int{}
	for at := (date{2000, 1, 1}); len(dates) <= 100000; at = at.next() {
		days[at] = len(dates)
		dates = append(dates, at)
	}
	return dates, days
}

func TestAllDays(t *testing.T) {
	dates, _ := walk()
	weekday := 5 // of day 0, a Saturday
	first := 0
	for day, d := range dates {
		hasDate(t, day, d)
		if n, e := calendar.Weekday(day); n != weekday || e != api.OK {
			t.Errorf("Weekday of %d is %d and %d, want %d", day, n, e, weekday)
		}
		weekday = (weekday + 1) % 7
		if d.dom == 1 {
			first = day
		}
		inMonth(t, day, first, min(first+size(d.year, d.month)-1, 100000))
	}
}

// The calendar of the standard library is the same.
func TestAllDaysOfTheStandardCalendar(t *testing.T) {
	at := time.Date(2000, 1, 1, 0, 0, 0, 0, time.UTC)
	for day := range api.MaxDay + 1 {
		hasDate(t, day, date{at.Year(), int(at.Month()), at.Day()})
		if n, e := calendar.Weekday(day); n != (int(at.Weekday())+6)%7 || e != api.OK {
			t.Errorf("Weekday of %d is %d and %d, want a %s", day, n, e, at.Weekday())
		}
		at = at.AddDate(0, 0, 1)
	}
}

// All triples around the days: only dates of days have a day.
func TestAllDates(t *testing.T) {
	_, days := walk()
	for year := 1990; year <= 2285; year++ {
		for month := -1; month <= 14; month++ {
			for dom := -1; dom <= 33; dom++ {
				want, ok := days[date{year, month, dom}]
				if n, e := calendar.Day(year, month, dom); n != want || (e == api.OK) != ok || !ok && e != api.ErrRange {
					t.Errorf("Day of %d, %d, %d is %d and %d, want %d and %v", year, month, dom, n, e, want, ok)
				}
			}
		}
	}
}

// checkAdd checks that Add returns the day of a date, or an error if there is none.
func checkAdd(t *testing.T, days map[date]int, day, months int, d date) {
	t.Helper()
	want, ok := days[d]
	if n, e := calendar.Add(day, months); n != want || (e == api.OK) != ok || !ok && e != api.ErrRange {
		t.Errorf("Add of %d and %d is %d and %d, want %d and %v (%v)", day, months, n, e, want, ok, d)
	}
}

func TestAddToAllDays(t *testing.T) {
	dates, days := walk()
	for day, d := range dates {
		for _, months := range []int{-1201, -49, -13, -12, -11, -2, -1, 0, 1, 2, 11, 12, 13, 48, 1199} {
			checkAdd(t, days, day, months, d.moved(months))
		}
	}
}

func TestAddAllMonths(t *testing.T) {
	dates, days := walk()
	for _, day := range []int{0, 1, 27, 28, 29, 30, 31, 58, 59, 60, 119, 365, 366, 1520, 36583, 36584, 99938, 99954, 99983, 99984, 99985, 100000} {
		year, month := dates[day].year, dates[day].month
		for months := range 3400 {
			checkAdd(t, days, day, months, date{year, month, dates[day].dom}.moved(0))
			year, month = nextMonth(year, month)
		}
		year, month = dates[day].year, dates[day].month
		for months := range 3400 {
			checkAdd(t, days, day, -months, date{year, month, dates[day].dom}.moved(0))
			year, month = monthBefore(year, month)
		}
	}
}

// P7.5

func TestDateAndDayAreInverse(t *testing.T) {
	for day := range api.MaxDay + 1 {
		year, month, dom, e := calendar.Date(day)
		back, f := calendar.Day(year, month, dom)
		if e != api.OK || f != api.OK || back != day {
			t.Errorf("Date of %d returns %d, and its Day is %d and %d", day, e, back, f)
		}
	}
	for year := 1995; year <= 2280; year++ {
		for month := 0; month <= 13; month++ {
			for dom := 0; dom <= 32; dom++ {
				day, e := calendar.Day(year, month, dom)
				if e != api.OK {
					continue
				}
				if y, m, d, e := calendar.Date(day); y != year || m != month || d != dom || e != api.OK {
					t.Errorf("Day of %d, %d, %d is %d, and its Date %d, %d, %d and %d", year, month, dom, day, y, m, d, e)
				}
			}
		}
	}
}

func TestALaterDayHasALaterDate(t *testing.T) {
	var last date
	for day := range api.MaxDay + 1 {
		var d date
		d.year, d.month, d.dom, _ = calendar.Date(day)
		if !last.earlier(d) {
			t.Errorf("the date of %d is %v, and that of the day before %v", day, d, last)
		}
		last = d
	}
}

// P7.6

func TestAWeekLaterItIsTheSameWeekday(t *testing.T) {
	var seen [7]bool
	for day := range api.MaxDay + 1 - 7 {
		n, e := calendar.Weekday(day)
		m, f := calendar.Weekday(day + 7)
		if n != m || e != api.OK || f != api.OK || n < 0 || n > 6 {
			t.Fatalf("the weekday of %d is %d, and a week later %d", day, n, m)
		}
		if day < 7 {
			seen[n] = true
		}
	}
	if seen != [7]bool{true, true, true, true, true, true, true} {
		t.Errorf("a week has the weekdays %v", seen)
	}
}

func TestMonthsFollowEachOther(t *testing.T) {
	at := 0
	for at <= api.MaxDay {
		first, last, e := calendar.Month(at)
		if first != at || last < first || e != api.OK {
			t.Fatalf("a month begins with %d, and its month is %d, %d and %d", at, first, last, e)
		}
		for day := first; day <= last; day++ {
			inMonth(t, day, first, last)
		}
		at = last + 1
	}
	if at != api.MaxDay+1 {
		t.Errorf("the last month ends with %d", at-1)
	}
}

// P7.7

func TestMonthsAreAddedOneAfterTheOther(t *testing.T) {
	r := rand.New(rand.NewPCG(7, 7))
	for range 300000 {
		day := r.IntN(api.MaxDay + 1)
		if _, _, dom, _ := calendar.Date(day); dom > 28 {
			continue
		}
		a, b := r.IntN(6800)-3400, r.IntN(6800)-3400
		if r.IntN(2) == 0 {
			a, b = a/100, b/100
		}
		between, e := calendar.Add(day, a)
		if e != api.OK {
			continue
		}
		n, e := calendar.Add(between, b)
		if m, f := calendar.Add(day, a+b); n != m || e != f {
			t.Errorf("Add of %d and %d, and then %d, is %d and %d; of %d it is %d and %d", day, a, b, n, e, a+b, m, f)
		}
	}
}

func TestALaterDayDoesNotLeadToAnEarlierOne(t *testing.T) {
	for _, months := range []int{-3285, -3284, -1999, -1200, -48, -13, -12, -11, -3, -2, -1, 0, 1, 2, 3, 11, 12, 13, 48, 1200, 2000, 3284, 3285} {
		last, found := 0, 0
		for day := range api.MaxDay + 1 {
			n, e := calendar.Add(day, months)
			if e != api.OK {
				continue
			}
			if n < last {
				t.Errorf("Add of %d and %d is %d, and of an earlier day it is %d", day, months, n, last)
			}
			last, found = n, found+1
		}
		if found == 0 {
			t.Errorf("nothing can be added %d", months)
		}
	}
}
