package calendar_test

import (
	"math"
	"testing"

	"kitbag/api"
	"kitbag/calendar"
)

// noDays are ints that are no days.
var noDays = []int{-1, -2, -7, -365, -100000, api.MaxDay + 1, api.MaxDay + 7, api.MaxDay + 15, 2 * api.MaxDay, 1 << 31, 1 << 32, 1 << 62, -1 << 31, -1 << 32, -1 << 62, math.MaxInt - 5, math.MaxInt, math.MinInt, math.MinInt + 5}

// hasDate checks that a day has a date, and the date this day.
func hasDate(t *testing.T, day int, want date) {
	t.Helper()
	if year, month, dom, e := calendar.Date(day); (date{year, month, dom}) != want || e != api.OK {
		t.Errorf("Date of %d is %d, %d, %d and %d, want %v", day, year, month, dom, e, want)
	}
	if n, e := calendar.Day(want.year, want.month, want.dom); n != day || e != api.OK {
		t.Errorf("Day of %v is %d and %d, want %d", want, n, e, day)
	}
}

// hasNoDay checks that there is no day with a date.
func hasNoDay(t *testing.T, year, month, dom int) {
	t.Helper()
	if n, e := calendar.Day(year, month, dom); n != 0 || e != api.ErrRange {
		t.Errorf("Day of %d, %d, %d is %d and %d, want ErrRange", year, month, dom, n, e)
	}
}

// adds checks that Add returns a day.
func adds(t *testing.T, day, months, want int) {
	t.Helper()
	if n, e := calendar.Add(day, months); n != want || e != api.OK {
		t.Errorf("Add of %d and %d is %d and %d, want %d", day, months, n, e, want)
	}
}

// cannotAdd checks that Add returns an error.
func cannotAdd(t *testing.T, day, months int) {
	t.Helper()
	if n, e := calendar.Add(day, months); n != 0 || e != api.ErrRange {
		t.Errorf("Add of %d and %d is %d and %d, want ErrRange", day, months, n, e)
	}
}

// inMonth checks that a day lies in a month.
func inMonth(t *testing.T, day, wantFirst, wantLast int) {
	t.Helper()
	if first, last, e := calendar.Month(day); first != wantFirst || last != wantLast || e != api.OK {
		t.Errorf("Month of %d is %d, %d and %d, want %d and %d", day, first, last, e, wantFirst, wantLast)
	}
}

// P7.1

func TestDatesOfDays(t *testing.T) {
	for day, want := range map[int]date{
		0:          {2000, 1, 1},
		1:          {2000, 1, 2},
		30:         {2000, 1, 31},
		31:         {2000, 2, 1},
		58:         {2000, 2, 28},
		59:         {2000, 2, 29},
		60:         {2000, 3, 1},
		90:         {2000, 3, 31},
		91:         {2000, 4, 1},
		365:        {2000, 12, 31},
		366:        {2001, 1, 1},
		424:        {2001, 2, 28},
		425:        {2001, 3, 1},
		730:        {2001, 12, 31},
		731:        {2002, 1, 1},
		1460:       {2003, 12, 31},
		1461:       {2004, 1, 1},
		1520:       {2004, 2, 29},
		9821:       {2026, 11, 21},
		36524:      {2099, 12, 31},
		36525:      {2100, 1, 1},
		36583:      {2100, 2, 28},
		36584:      {2100, 3, 1},
		36889:      {2100, 12, 31},
		36890:      {2101, 1, 1},
		38044:      {2104, 2, 29},
		73049:      {2200, 1, 1},
		73107:      {2200, 2, 28},
		73108:      {2200, 3, 1},
		99984:      {2273, 9, 30},
		99985:      {2273, 10, 1},
		api.MaxDay: {2273, 10, 16},
	} {
		hasDate(t, day, want)
	}
}

func TestNoDatesWithoutADay(t *testing.T) {
	for _, day := range noDays {
		if year, month, dom, e := calendar.Date(day); year != 0 || month != 0 || dom != 0 || e != api.ErrRange {
			t.Errorf("Date of %d is %d, %d, %d and %d, want ErrRange", day, year, month, dom, e)
		}
		if n, e := calendar.Weekday(day); n != 0 || e != api.ErrRange {
			t.Errorf("Weekday of %d is %d and %d, want ErrRange", day, n, e)
		}
	}
}

func TestNoDayWithoutADate(t *testing.T) {
	lengths := [...]int{31, 28, 31, 30, 31, 30, 31, 31, 30, 31, 30, 31}
	for i, n := range lengths {
		if _, e := calendar.Day(2001, i+1, n); e != api.OK {
			t.Errorf("Day of 2001, %d, %d returns %d", i+1, n, e)
		}
		hasNoDay(t, 2001, i+1, n+1)
		hasNoDay(t, 2001, i+1, 0)
	}
	for _, year := range []int{2001, 2002, 2003, 2005, 2026, 2100, 2200, 2273} {
		hasNoDay(t, year, 2, 29)
	}
	for _, year := range []int{2000, 2004, 2096, 2104, 2196, 2204, 2272} {
		if _, e := calendar.Day(year, 2, 29); e != api.OK {
			t.Errorf("Day of %d, 2, 29 returns %d", year, e)
		}
		hasNoDay(t, year, 2, 30)
	}
	for _, month := range []int{0, 13, -1, 14, 24, -11, 256 + 1, 1<<32 + 1, math.MaxInt, math.MinInt} {
		hasNoDay(t, 2000, month, 1)
		hasNoDay(t, 2010, month, 15)
	}
	for _, dom := range []int{0, 32, -1, -30, 60, 366, 256 + 1, 1<<32 + 1, math.MaxInt, math.MinInt, math.MinInt + 1} {
		hasNoDay(t, 2000, 1, dom)
		hasNoDay(t, 2010, 7, dom)
	}
}

// There are dates that are the date of no day.
func TestNoDayOutsideOfTheDays(t *testing.T) {
	for _, d := range []date{
		{1999, 12, 31}, {1999, 1, 1}, {1996, 2, 29}, {1900, 1, 1}, {1, 1, 1}, {0, 1, 1}, {0, 12, 31}, {-1, 6, 15}, {-2000, 1, 1},
		{2273, 10, 17}, {2273, 10, 31}, {2273, 11, 1}, {2273, 11, 16}, {2273, 12, 31}, {2274, 1, 1}, {2274, 10, 16}, {2276, 2, 29}, {2400, 2, 29}, {9999, 12, 31},
		{2000 + 1<<32, 1, 1}, {2000 + 1<<62, 1, 1}, {1 << 62, 1, 1}, {math.MaxInt, 12, 31}, {math.MaxInt, 1, 1}, {math.MinInt, 1, 1}, {math.MinInt + 2000, 1, 1}, {math.MinInt, 12, 31},
		{math.MaxInt, math.MaxInt, math.MaxInt}, {math.MinInt, math.MinInt, math.MinInt}, {0, 0, 0},
	} {
		hasNoDay(t, d.year, d.month, d.dom)
	}
}

func TestWeekdays(t *testing.T) {
	for day, want := range map[int]int{0: 5, 1: 6, 2: 0, 3: 1, 4: 2, 5: 3, 6: 4, 7: 5, 8: 6, 9: 0, 59: 1, 366: 0, 36525: 4, 36583: 6, 36584: 0, api.MaxDay - 1: 2, api.MaxDay: 3} {
		if n, e := calendar.Weekday(day); n != want || e != api.OK {
			t.Errorf("Weekday of %d is %d and %d, want %d", day, n, e, want)
		}
	}
}

// P7.2

func TestAddMonths(t *testing.T) {
	adds(t, 0, 0, 0)
	adds(t, 0, 1, 31)
	adds(t, 14, 2, 74)
	adds(t, 0, 12, 366)
	adds(t, 31, -1, 0)
	adds(t, 366, -12, 0)
	adds(t, 366, -1, 335)
	adds(t, 335, 1, 366)
	adds(t, 365, 2, 424)
	adds(t, 15, 1200, 36540)
	adds(t, 36540, -1200, 15)
	adds(t, 15, 3285, api.MaxDay)
	adds(t, api.MaxDay, -3285, 15)
	adds(t, api.MaxDay, 0, api.MaxDay)
	adds(t, api.MaxDay-30, 1, api.MaxDay)
}

func TestAddEndsWithTheMonth(t *testing.T) {
	adds(t, 28, 1, 59) // the 29th of January
	adds(t, 29, 1, 59)
	adds(t, 30, 1, 59)
	adds(t, 27, 1, 58)
	adds(t, 28, 13, 424)
	adds(t, 30, 13, 424)
	adds(t, 27, 13, 424)
	adds(t, 30, 2, 90)
	adds(t, 30, 3, 120)
	adds(t, 90, -1, 59)
	adds(t, 59, 12, 424)   // 29 February 2000
	adds(t, 59, 48, 1520)  // there is one in 2004
	adds(t, 1520, -48, 59) // and in 2000
	adds(t, 59, 1200, 36583)
	adds(t, 58, 1200, 36583)
	adds(t, 36583, -1200, 58) // the 28th stays the 28th
	adds(t, 59, 1, 88)        // and the 29th is not the last one of March
	adds(t, 59, -1, 28)
	adds(t, 30, 3284, 99984) // 30 September 2273
}

func TestAddOutsideOfTheDays(t *testing.T) {
	for _, months := range []int{0, 1, -1, 12, -12, math.MaxInt, math.MinInt} {
		for _, day := range noDays {
			cannotAdd(t, day, months)
		}
	}
	cannotAdd(t, 0, -1)
	cannotAdd(t, 30, -1)
	cannotAdd(t, 31, -2)
	cannotAdd(t, 366, -13)
	cannotAdd(t, api.MaxDay+1, -1)
	cannotAdd(t, -1, 1)
	cannotAdd(t, api.MaxDay, -3286)
	cannotAdd(t, 16, 3285) // 17 October 2273
	cannotAdd(t, 30, 3285)
	cannotAdd(t, 0, 3286)
	cannotAdd(t, 0, 3287)
	cannotAdd(t, 0, 3288)
	cannotAdd(t, 0, 3300)
	cannotAdd(t, api.MaxDay-29, 1)
	cannotAdd(t, api.MaxDay-16, 1)
	adds(t, api.MaxDay-46, 1, 99984) // but 31 August may become 30 September
	for months := 1; months < 30; months++ {
		cannotAdd(t, api.MaxDay, months)
	}
	for _, day := range []int{0, 30, 31, 59, 365, 50000, api.MaxDay} {
		for _, months := range []int{3286, -3286, 4800, -4800, 1 << 31, -1 << 31, 1 << 32, -1 << 32, 1<<32 + 1, 1 << 61, 1 << 62, -1 << 62, math.MaxInt, math.MaxInt - 1, math.MaxInt - 3285, math.MinInt, math.MinInt + 1, math.MinInt + 3285, math.MaxInt / 12, math.MinInt / 12, math.MaxInt / 31, math.MaxInt / 365} {
			cannotAdd(t, day, months)
		}
	}
}

// P7.3

func TestMonthsOfDays(t *testing.T) {
	inMonth(t, 0, 0, 30)
	inMonth(t, 15, 0, 30)
	inMonth(t, 30, 0, 30)
	inMonth(t, 31, 31, 59)
	inMonth(t, 45, 31, 59)
	inMonth(t, 59, 31, 59)
	inMonth(t, 60, 60, 90)
	inMonth(t, 335, 335, 365)
	inMonth(t, 365, 335, 365)
	inMonth(t, 366, 366, 396)
	inMonth(t, 397, 397, 424)
	inMonth(t, 424, 397, 424)
	inMonth(t, 36583, 36556, 36583)
	inMonth(t, 99984, 99955, 99984)
}

func TestTheLastMonthEndsWithMaxDay(t *testing.T) {
	for day := 99985; day <= api.MaxDay; day++ {
		inMonth(t, day, 99985, api.MaxDay)
	}
}

func TestNoMonthsWithoutADay(t *testing.T) {
	for _, day := range noDays {
		if first, last, e := calendar.Month(day); first != 0 || last != 0 || e != api.ErrRange {
			t.Errorf("Month of %d is %d, %d and %d, want ErrRange", day, first, last, e)
		}
	}
}

// P7.4, and the rule P4.

// answers is what all functions return for a day and a number.
type answers struct {
	date                                date
	day, weekday, later, first, last    int
	eDate, eDay, eWeekday, eAdd, eMonth api.Errno
}

func ask(day, n int) (a answers) {
	a.date.year, a.date.month, a.date.dom, a.eDate = calendar.Date(day)
	a.day, a.eDay = calendar.Day(2000+n, 2, 29)
	a.weekday, a.eWeekday = calendar.Weekday(day)
	a.later, a.eAdd = calendar.Add(day, n)
	a.first, a.last, a.eMonth = calendar.Month(day)
	return a
}

func TestResultsDependOnArgumentsOnly(t *testing.T) {
	days := append([]int{0, 30, 31, 59, 60, 365, 366, 424, 36583, 50000, 99984, 99985, api.MaxDay}, noDays...)
	counts := []int{0, 1, -1, 4, 12, 100, 273, 1200, 3285, math.MaxInt, math.MinInt}
	known := map[[2]int]answers{}
	for _, day := range days {
		for _, n := range counts {
			known[[2]int{day, n}] = ask(day, n)
		}
	}
	for i := range len(days) * len(counts) * 3 { // in another order
		day, n := days[(i*5)%len(days)], counts[(i*7)%len(counts)]
		if a := ask(day, n); a != known[[2]int{day, n}] {
			t.Errorf("for %d and %d the results are %v, and before %v", day, n, a, known[[2]int{day, n}])
		}
	}
}
