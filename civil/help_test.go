package civil_test

import (
	"iter"
	"math"
	"math/big"
	"testing"

	"quitrent/api"
	"quitrent/civil"
)

// The least and the greatest of each, as the chapter and its Examples tell them.
const (
	firstMonth = 12
	lastMonth  = 12*9999 + 11
	firstDay   = -719162
	lastDay    = 2932896
)

// farInts are numbers that are no year's, no month's and no day's of a date.
var farInts = []int{math.MinInt, math.MinInt + 1, math.MinInt32, -10000, -1, 0, 10000, math.MaxInt32, math.MaxInt - 1, math.MaxInt}

// farMonths are numbers that no month has; the last ones come to a month's where bits are lost on the way.
var farMonths = []int64{math.MinInt64, math.MinInt64 + 1, math.MinInt32, -lastMonth, -firstMonth, -1, 0, 1, firstMonth - 1, lastMonth + 1, lastMonth + 12, math.MaxInt32, math.MaxInt64 - 1, math.MaxInt64, 1<<32 + 12*2023, -1<<32 + 12*2023, 1<<62 + 12*2023, 1<<16 + 12*9000}

// farDays are numbers that no day has.
var farDays = []int64{math.MinInt64, math.MinInt64 + 1, math.MinInt64 - firstDay, math.MinInt32, 10 * firstDay, firstDay - 366, firstDay - 2, firstDay - 1, lastDay + 1, lastDay + 2, lastDay + 366, math.MaxInt32, math.MaxInt64 + firstDay, math.MaxInt64 - 1, math.MaxInt64, 1 << 32, -1 << 32, 1<<32 + 11017, 1 << 62}

// leapByTheBook is the chapter's rule, of numbers that know no bound.
func leapByTheBook(year int) bool {
	divides := func(by int64) bool {
		return new(big.Int).Mod(big.NewInt(int64(year)), big.NewInt(by)).Sign() == 0
	}
	return divides(4) && !divides(100) || divides(400)
}

// lengthByTheBook is how many days the month (1 to 12) of a year has; 0, if there is no such one.
func lengthByTheBook(year, month int) int {
	if year < 1 || year > 9999 {
		return 0
	}
	switch month {
	case 1, 3, 5, 7, 8, 10, 12:
		return 31
	case 4, 6, 9, 11:
		return 30
	case 2:
		if year%4 == 0 && year%100 != 0 || year%400 == 0 {
			return 29
		}
		return 28
	}
	return 0
}

// isDate tells whether it is one.
func isDate(d api.Date) bool {
	return d.Day >= 1 && d.Day <= lengthByTheBook(d.Year, d.Month)
}

// months are all years' months, in order: of each its year, and its place in it from 1 on.
func months() iter.Seq2[int, int] {
	return func(yield func(int, int) bool) {
		for year := 1; year <= 9999; year++ {
			for month := 1; month <= 12; month++ {
				if !yield(year, month) {
					return
				}
			}
		}
	}
}

// dates are all dates, one day behind the other, each with its number: counted, not worked out.
func dates() iter.Seq2[api.Date, int64] {
	return func(yield func(api.Date, int64) bool) {
		n := int64(firstDay)
		for year, month := range months() {
			for day := 1; day <= lengthByTheBook(year, month); day++ {
				if !yield(api.Date{Year: year, Month: month, Day: day}, n) {
					return
				}
				n++
			}
		}
	}
}

// isNone fails where a call takes d as a date.
func isNone(t testing.TB, d api.Date) {
	t.Helper()
	if civil.Valid(d) {
		t.Errorf("Valid(%v)", d)
	}
	if n := civil.Month(d); n != 0 {
		t.Errorf("Month(%v): %d, not 0", d, n)
	}
	if n, e := civil.Day(d); n != 0 || e != api.ErrArg {
		t.Errorf("Day(%v): %d, %v, not 0, ErrArg", d, n, e)
	}
	if s := civil.Text(d); s != "" {
		t.Errorf("Text(%v): %q, not empty", d, s)
	}
}

// isOne fails where a call does not take d as the date of that number.
func isOne(t testing.TB, d api.Date, day int64) {
	t.Helper()
	if !civil.Valid(d) {
		t.Fatalf("Valid(%v): false", d)
	}
	if n, want := civil.Month(d), int64(12*d.Year+d.Month-1); n != want {
		t.Fatalf("Month(%v): %d, not %d", d, n, want)
	}
	if n, e := civil.Day(d); n != day || e != api.OK {
		t.Fatalf("Day(%v): %d, %v, not %d", d, n, e, day)
	}
	if got, e := civil.Of(day); got != d || e != api.OK {
		t.Fatalf("Of(%d): %v, %v, not %v", day, got, e, d)
	}
}

// noDay fails where Of answers a date of that number.
func noDay(t testing.TB, day int64) {
	t.Helper()
	if d, e := civil.Of(day); d != (api.Date{}) || e != api.ErrArg {
		t.Errorf("Of(%d): %v, %v, not ErrArg", day, d, e)
	}
}

// noMonth fails where a call takes it as a month's number.
func noMonth(t testing.TB, month int64) {
	t.Helper()
	if n := civil.Length(month); n != 0 {
		t.Errorf("Length(%d): %d, not 0", month, n)
	}
	if n, e := civil.First(month); n != 0 || e != api.ErrArg {
		t.Errorf("First(%d): %d, %v, not 0, ErrArg", month, n, e)
	}
	for _, day := range []int{1, 28, 31, 32, 0, -1, math.MinInt, math.MaxInt} {
		noClamp(t, month, day)
	}
}

// noClamp fails where Clamp answers a date.
func noClamp(t testing.TB, month int64, day int) {
	t.Helper()
	if d, e := civil.Clamp(month, day); d != (api.Date{}) || e != api.ErrArg {
		t.Errorf("Clamp(%d, %d): %v, %v, not ErrArg", month, day, d, e)
	}
}

// noText fails where Parse takes s as a date's text.
func noText(t testing.TB, s string) {
	t.Helper()
	if d, e := civil.Parse(s); d != (api.Date{}) || e != api.ErrForm {
		t.Errorf("Parse(%q): %v, %v, not ErrForm", s, d, e)
	}
}
