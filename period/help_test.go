package period_test

import (
	"iter"
	"math"
	"testing"
	"time"

	"quitrent/api"
	"quitrent/period"
)

// The least and the greatest of each, as the chapters and their Examples tell them.
const (
	maxTime    = 137438953472
	maxShift   = 50400
	firstDay   = -719162
	lastDay    = 2932896
	firstMonth = 12
	lastMonth  = 12*9999 + 11
)

// someShifts are of either sign, the least and the greatest among them.
var someShifts = []int64{0, 900, -900, 3600, -3600, 20700, -34200, maxShift - 900, -maxShift + 900, maxShift, -maxShift}

// noShifts are numbers that are none.
var noShifts = []int64{
	1, -1, 2, 450, -450, 899, -899, 901, -901, 1000, -1000, 1799, 1801, maxShift - 1, -maxShift + 1,
	maxShift + 1, -maxShift - 1, maxShift + 900, -maxShift - 900, 86400, -86400, 900 * 900, -900 * 900,
	math.MaxInt32, math.MinInt32, 1 << 32, -1 << 32, 900 << 32, -900 << 32, 1<<32 + 900, 900 << 48, -900 << 48, 1<<62 + 900,
	math.MaxInt64 / 900 * 900, math.MinInt64 / 900 * 900, math.MaxInt64 - 1, math.MinInt64 + 1, math.MaxInt64, math.MinInt64,
}

// noTimes are numbers that are none; the last ones come to a time's where bits are lost on the way.
var noTimes = []int64{
	-1, -2, -900, -901, -maxShift, -maxShift - 1, -86400, -86401, firstDay * 86400, -maxTime, -maxTime - 1,
	maxTime + 1, maxTime + 2, maxTime + 900, maxTime + maxShift, maxTime + maxShift + 1, maxTime + 86400, 2 * maxTime, lastDay * 86400,
	math.MinInt64, math.MinInt64 + 1, math.MinInt64 + maxShift, math.MaxInt64 - maxShift, math.MaxInt64 - 1, math.MaxInt64,
	1 << 38, -1 << 38, 1 << 62, 1<<40 + 86400, math.MinInt64 + 86400,
}

// noDays are numbers that no date has; of the last ones the seconds come to some date's where bits are lost on the way.
var noDays = []int64{
	firstDay - 1, firstDay - 2, firstDay - 366, 10 * firstDay, lastDay + 1, lastDay + 2, lastDay + 366, 10 * lastDay,
	math.MinInt32, math.MaxInt32, math.MinInt64, math.MinInt64 + 1, math.MaxInt64 - 1, math.MaxInt64,
	math.MinInt64 / 86400, math.MaxInt64 / 86400, 1 << 32, -1 << 32, 1<<32 + 11017, 1 << 57, 1<<57 + 11017, -1 << 57, 1<<62 + 11017,
}

// noMonths are numbers that no month has; the last ones come to a month's where bits are lost on the way.
var noMonths = []int64{
	firstMonth - 1, firstMonth - 2, 1, 0, -1, -firstMonth, -12 * 1970, -lastMonth, lastMonth + 1, lastMonth + 2, lastMonth + 12, 10 * lastMonth,
	math.MinInt32, math.MaxInt32, math.MinInt64, math.MinInt64 + 1, math.MaxInt64 - 1, math.MaxInt64,
	1<<17 + 12*1970, 1<<32 + 12*1970, -1<<32 + 12*1970, 1<<62 + 12*1970,
}

// shifts are all that there are.
func shifts() iter.Seq[int64] {
	return func(yield func(int64) bool) {
		for i := int64(-56); i <= 56; i++ {
			if !yield(900 * i) {
				return
			}
		}
	}
}

// byTheBook is the day and the month that the library's clock shows at that time.
func byTheBook(at, shift int64) (day, month int64) {
	clock := time.Unix(at+shift, 0).UTC()
	midnight := time.Date(clock.Year(), clock.Month(), clock.Day(), 0, 0, 0, 0, time.UTC)
	return midnight.Unix() / 86400, 12*int64(clock.Year()) + int64(clock.Month()) - 1
}

// seconds are those up to that date's beginning on a clock that is not ahead.
func seconds(year, month, day int) int64 {
	return time.Date(year, time.Month(month), day, 0, 0, 0, 0, time.UTC).Unix()
}

// isIn fails where the time is of another day, or month, on that clock.
func isIn(t testing.TB, at, shift, day, month int64) {
	t.Helper()
	if got, e := period.Day(at, shift); got != day || e != api.OK {
		t.Fatalf("Day(%d, %d): %d, %v, not %d", at, shift, got, e, day)
	}
	if got, e := period.Month(at, shift); got != month || e != api.OK {
		t.Fatalf("Month(%d, %d): %d, %v, not %d", at, shift, got, e, month)
	}
}

// isInNone fails where the time has a day, or a month.
func isInNone(t testing.TB, at, shift int64) {
	t.Helper()
	if got, e := period.Day(at, shift); got != 0 || e != api.ErrArg {
		t.Errorf("Day(%d, %d): %d, %v, not 0, ErrArg", at, shift, got, e)
	}
	if got, e := period.Month(at, shift); got != 0 || e != api.ErrArg {
		t.Errorf("Month(%d, %d): %d, %v, not 0, ErrArg", at, shift, got, e)
	}
}

// dawns fails where the day begins on that clock at another time.
func dawns(t testing.TB, day, shift, want int64) {
	t.Helper()
	if got, e := period.Dawn(day, shift); got != want || e != api.OK {
		t.Fatalf("Dawn(%d, %d): %d, %v, not %d", day, shift, got, e, want)
	}
}

// dawnsNot fails where Dawn answers a time.
func dawnsNot(t testing.TB, day, shift int64) {
	t.Helper()
	if got, e := period.Dawn(day, shift); got != 0 || e != api.ErrArg {
		t.Errorf("Dawn(%d, %d): %d, %v, not 0, ErrArg", day, shift, got, e)
	}
}

// starts fails where the month begins on that clock at another time.
func starts(t testing.TB, month, shift, want int64) {
	t.Helper()
	if got, e := period.Start(month, shift); got != want || e != api.OK {
		t.Fatalf("Start(%d, %d): %d, %v, not %d", month, shift, got, e, want)
	}
}

// startsNot fails where Start answers a time.
func startsNot(t testing.TB, month, shift int64) {
	t.Helper()
	if got, e := period.Start(month, shift); got != 0 || e != api.ErrArg {
		t.Errorf("Start(%d, %d): %d, %v, not 0, ErrArg", month, shift, got, e)
	}
}
