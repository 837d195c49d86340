package civil_test

import (
	"math"
	"testing"
	"time"

	"quitrent/api"
	"quitrent/civil"
)

// The chapter's examples.

func TestExamples(t *testing.T) {
	isOne(t, api.Date{Year: 1970, Month: 1, Day: 1}, 0)
	isOne(t, api.Date{Year: 2000, Month: 3, Day: 1}, 11017)
	isOne(t, api.Date{Year: 1969, Month: 12, Day: 31}, -1)
	if civil.Leap(1900) || !civil.Leap(2000) {
		t.Errorf("Leap of 1900, 2000: %v, %v", civil.Leap(1900), civil.Leap(2000))
	}
	if d, e := civil.Clamp(12*2023+1, 31); d != (api.Date{Year: 2023, Month: 2, Day: 28}) || e != api.OK {
		t.Errorf("Clamp(of 2023-02, 31): %v, %v", d, e)
	}
	noText(t, "2024-02-30")
	noText(t, "24-2-3")
}

// P8.1: Leap, Length, Valid, Month.

func TestLeap(t *testing.T) {
	for year := 1; year <= 9999; year++ {
		days := time.Date(year, 12, 31, 0, 0, 0, 0, time.UTC).YearDay()
		if got := civil.Leap(year); got != (days == 366) {
			t.Errorf("Leap(%d): %v, of %d days", year, got, days)
		}
	}
	for year, want := range map[int]bool{
		0: true, -1: false, -2: false, -3: false, -4: true, -5: false, -96: true, -100: false, -200: false, -300: false, -400: true, -401: false, -404: true,
		4: true, 100: false, 200: false, 300: false, 400: true, 1900: false, 2000: true, 2023: false, 2024: true, 2100: false,
		10000: true, 10001: false, 10004: true, 10100: false, 10400: true,
		math.MinInt: true, math.MinInt + 1: false, math.MaxInt: false, math.MaxInt - 3: true,
	} {
		if got := civil.Leap(year); got != want {
			t.Errorf("Leap(%d): %v", year, got)
		}
	}
}

func TestLeapOfAnyYear(t *testing.T) {
	looks := func(from, to int) {
		for year := from; ; year++ {
			if got, want := civil.Leap(year), leapByTheBook(year); got != want {
				t.Fatalf("Leap(%d): %v, not %v", year, got, want)
			}
			if year == to {
				return
			}
		}
	}
	looks(-2000, 2000)
	looks(9000, 11000)
	looks(math.MinInt, math.MinInt+1000)
	looks(math.MaxInt-1000, math.MaxInt)
	looks(math.MinInt32, math.MinInt32+1000)
	looks(math.MaxInt32-1000, math.MaxInt32)
}

func TestLength(t *testing.T) {
	n := int64(firstMonth)
	for year, month := range months() {
		if got, want := civil.Length(n), lengthByTheBook(year, month); got != want {
			t.Errorf("Length(%d), of %d-%d: %d, not %d", n, year, month, got, want)
		}
		n++
	}
	if n != lastMonth+1 {
		t.Errorf("the months end at %d", n)
	}
	for _, month := range farMonths {
		noMonth(t, month)
	}
	for month := range int64(firstMonth) {
		noMonth(t, month)
		noMonth(t, -month)
		noMonth(t, lastMonth+1+month)
	}
}

func TestLengthsOfAYear(t *testing.T) {
	for year, want := range map[int64][12]int{
		1:    {31, 28, 31, 30, 31, 30, 31, 31, 30, 31, 30, 31},
		4:    {31, 29, 31, 30, 31, 30, 31, 31, 30, 31, 30, 31},
		1900: {31, 28, 31, 30, 31, 30, 31, 31, 30, 31, 30, 31},
		2000: {31, 29, 31, 30, 31, 30, 31, 31, 30, 31, 30, 31},
		9999: {31, 28, 31, 30, 31, 30, 31, 31, 30, 31, 30, 31},
	} {
		for range 2 { // the second time as the first: nothing is left behind
			for i, days := range want {
				if got := civil.Length(12*year + int64(i)); got != days {
					t.Errorf("Length of %d-%d: %d, not %d", year, i+1, got, days)
				}
			}
		}
	}
}

func TestValidAndMonth(t *testing.T) {
	for d := range dates() {
		if !civil.Valid(d) {
			t.Fatalf("Valid(%v): false", d)
		}
		if got, want := civil.Month(d), int64(12*d.Year+d.Month-1); got != want {
			t.Fatalf("Month(%v): %d, not %d", d, got, want)
		}
	}
}

func TestOneTooLowOrTooHigh(t *testing.T) {
	for year, month := range months() {
		isNone(t, api.Date{Year: year, Month: month, Day: 0})
		isNone(t, api.Date{Year: year, Month: month, Day: lengthByTheBook(year, month) + 1})
		isNone(t, api.Date{Year: year, Month: month, Day: 32})
	}
	for year := -1; year <= 10001; year++ {
		for _, day := range []int{1, 28, 31} {
			isNone(t, api.Date{Year: year, Month: 0, Day: day})
			isNone(t, api.Date{Year: year, Month: 13, Day: day})
		}
	}
	for _, year := range []int{-400, -1, 0, 10000, 10400} {
		for month := -1; month <= 14; month++ {
			for day := -1; day <= 32; day++ {
				isNone(t, api.Date{Year: year, Month: month, Day: day})
			}
		}
	}
}

func TestFebruary29(t *testing.T) {
	for year, want := range map[int]bool{1: false, 4: true, 100: false, 400: true, 1600: true, 1700: false, 1900: false, 1970: false, 1972: true, 2000: true, 2023: false, 2024: true, 2100: false, 2400: true, 9996: true, 9999: false} {
		d := api.Date{Year: year, Month: 2, Day: 29}
		if got := civil.Valid(d); got != want {
			t.Errorf("Valid(%v): %v", d, got)
		}
		if !want {
			isNone(t, d)
		}
		isNone(t, api.Date{Year: year, Month: 2, Day: 30})
	}
	for _, year := range []int{-400, -4, 0, 10000, 10004, math.MinInt} { // by the rule leap years, but no date's
		isNone(t, api.Date{Year: year, Month: 2, Day: 29})
	}
}

func TestFarFields(t *testing.T) {
	for _, far := range farInts {
		for _, good := range []api.Date{{Year: 1, Month: 1, Day: 1}, {Year: 1970, Month: 1, Day: 1}, {Year: 2024, Month: 2, Day: 29}, {Year: 9999, Month: 12, Day: 31}} {
			isNone(t, api.Date{Year: far, Month: good.Month, Day: good.Day})
			isNone(t, api.Date{Year: good.Year, Month: far, Day: good.Day})
			isNone(t, api.Date{Year: good.Year, Month: good.Month, Day: far})
		}
		for _, other := range farInts {
			isNone(t, api.Date{Year: far, Month: other, Day: 1})
			isNone(t, api.Date{Year: 2024, Month: far, Day: other})
			isNone(t, api.Date{Year: far, Month: 1, Day: other})
			isNone(t, api.Date{Year: far, Month: other, Day: far})
		}
	}
	isNone(t, api.Date{})
	// Months that would stand in another year, were they carried on.
	isNone(t, api.Date{Year: 2023, Month: 24, Day: 1})
	isNone(t, api.Date{Year: 2024, Month: -11, Day: 1})
	isNone(t, api.Date{Year: 0, Month: 13, Day: 1})
	isNone(t, api.Date{Year: 10000, Month: 0, Day: 1})
}

// P8.2: Day, Of.

func TestDayAndOf(t *testing.T) {
	last := int64(0)
	for d, n := range dates() {
		isOne(t, d, n)
		last = n
	}
	if last != lastDay {
		t.Errorf("the dates end at %d", last)
	}
	isOne(t, api.Date{Year: 1, Month: 1, Day: 1}, firstDay)
	isOne(t, api.Date{Year: 9999, Month: 12, Day: 31}, lastDay)
	for _, day := range farDays {
		noDay(t, day)
	}
}

func TestDayAsTheLibraryHasIt(t *testing.T) {
	for n := int64(firstDay); n <= lastDay; n += 13 {
		at := time.Unix(86400*n, 0).UTC()
		isOne(t, api.Date{Year: at.Year(), Month: int(at.Month()), Day: at.Day()}, n)
	}
}

// P8.3: First, Clamp.

func TestFirst(t *testing.T) {
	n, first := int64(firstMonth), int64(firstDay)
	for year, month := range months() {
		if got, e := civil.First(n); got != first || e != api.OK {
			t.Fatalf("First(%d), of %d-%d: %d, %v, not %d", n, year, month, got, e, first)
		}
		first += int64(lengthByTheBook(year, month))
		n++
	}
	for _, month := range farMonths {
		noMonth(t, month)
	}
}

func TestClamp(t *testing.T) {
	n := int64(firstMonth)
	for year, month := range months() {
		most := lengthByTheBook(year, month)
		for _, day := range []int{1, 2, 27, 28, 29, 30, 31, 32, 33, 100, math.MaxInt32, math.MaxInt - 1, math.MaxInt} {
			want := api.Date{Year: year, Month: month, Day: min(day, most)}
			if got, e := civil.Clamp(n, day); got != want || e != api.OK {
				t.Fatalf("Clamp(%d, %d): %v, %v, not %v", n, day, got, e, want)
			}
		}
		for _, day := range []int{0, -1, -28, -31, math.MinInt32, math.MinInt + 1, math.MinInt} {
			noClamp(t, n, day)
		}
		n++
	}
	for _, year := range []int{1900, 2000, 2023, 2024} {
		for day := 1; day <= 40; day++ {
			want := api.Date{Year: year, Month: 2, Day: min(day, lengthByTheBook(year, 2))}
			if got, e := civil.Clamp(int64(12*year+1), day); got != want || e != api.OK {
				t.Errorf("Clamp(of %d-02, %d): %v, %v, not %v", year, day, got, e, want)
			}
		}
	}
}

// P8.5: what follows.

func TestTheNextDay(t *testing.T) {
	before, e := civil.Of(firstDay)
	if e != api.OK {
		t.Fatal(e)
	}
	for n := int64(firstDay) + 1; n <= lastDay; n++ {
		d, e := civil.Of(n)
		if e != api.OK {
			t.Fatalf("Of(%d): %v", n, e)
		}
		sameMonth := d.Year == before.Year && d.Month == before.Month && d.Day == before.Day+1
		nextMonth := d.Day == 1 && civil.Month(d) == civil.Month(before)+1 && before.Day == civil.Length(civil.Month(before))
		if !sameMonth && !nextMonth {
			t.Fatalf("Of(%d): %v, behind %v", n, d, before)
		}
		if back, e := civil.Day(d); back != n || e != api.OK {
			t.Fatalf("Day(Of(%d)): %d, %v", n, back, e)
		}
		before = d
	}
}

func TestMonthsWithoutAGap(t *testing.T) {
	behind := int64(firstDay)
	for n := int64(firstMonth); n <= lastMonth; n++ {
		first, e := civil.First(n)
		if first != behind || e != api.OK {
			t.Fatalf("First(%d): %d, %v, not %d", n, first, e, behind)
		}
		behind = first + int64(civil.Length(n))
		begin, e := civil.Clamp(n, 1)
		if day, _ := civil.Day(begin); day != first || e != api.OK || civil.Month(begin) != n {
			t.Fatalf("Clamp(%d, 1): %v, %v", n, begin, e)
		}
		end, e := civil.Clamp(n, 31)
		if day, _ := civil.Day(end); day != behind-1 || e != api.OK || civil.Month(end) != n {
			t.Fatalf("Clamp(%d, 31): %v, %v", n, end, e)
		}
	}
	if behind != lastDay+1 {
		t.Errorf("the months end ahead of %d", behind)
	}
}

// FuzzDate holds any three numbers against the chapter's words.
func FuzzDate(f *testing.F) {
	f.Add(1970, 1, 1)
	f.Add(2024, 2, 29)
	f.Add(10000, 0, math.MinInt)
	f.Fuzz(func(t *testing.T, year, month, day int) {
		if got, want := civil.Leap(year), leapByTheBook(year); got != want {
			t.Fatalf("Leap(%d): %v", year, got)
		}
		d := api.Date{Year: year, Month: month, Day: day}
		if !isDate(d) {
			isNone(t, d)
			return
		}
		isOne(t, d, time.Date(year, time.Month(month), day, 0, 0, 0, 0, time.UTC).Unix()/86400)
	})
}

// FuzzNumber takes any number as a day's, and as a month's.
func FuzzNumber(f *testing.F) {
	f.Add(int64(0), 1)
	f.Add(int64(12*2023+1), 31)
	f.Add(int64(math.MinInt64), math.MaxInt)
	f.Fuzz(func(t *testing.T, n int64, day int) {
		if n < firstDay || n > lastDay {
			noDay(t, n)
		} else {
			at := time.Unix(86400*n, 0).UTC()
			isOne(t, api.Date{Year: at.Year(), Month: int(at.Month()), Day: at.Day()}, n)
		}
		if n < firstMonth || n > lastMonth {
			noMonth(t, n)
			return
		}
		year, month := int(n/12), int(n%12)+1
		if day < 1 {
			noClamp(t, n, day)
			return
		}
		want := api.Date{Year: year, Month: month, Day: min(day, lengthByTheBook(year, month))}
		if got, e := civil.Clamp(n, day); got != want || e != api.OK {
			t.Fatalf("Clamp(%d, %d): %v, %v, not %v", n, day, got, e, want)
		}
	})
}
