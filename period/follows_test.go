package period_test

import (
	"testing"

	"quitrent/api"
	"quitrent/civil"
	"quitrent/period"
)

// P9.3: what follows.

// liesWithin fails where the time does not lie within its day, or its month, as Dawn and Start have them.
func liesWithin(t testing.TB, at, shift int64) {
	t.Helper()
	for _, c := range []struct {
		name     string
		of, from func(int64, int64) (int64, api.Errno)
	}{{"day", period.Day, period.Dawn}, {"month", period.Month, period.Start}} {
		n, e := c.of(at, shift)
		if e != api.OK {
			t.Fatalf("the %s of %d, %d: %v", c.name, at, shift, e)
		}
		begin, e := c.from(n, shift)
		next, f := c.from(n+1, shift)
		if e != api.OK || f != api.OK || at < begin || at >= next {
			t.Fatalf("%d, %d: its %s %d lies from %d (%v) to %d (%v)", at, shift, c.name, n, begin, e, next, f)
		}
	}
}

func TestTimesLieWithin(t *testing.T) {
	for shift := range shifts() {
		for _, at := range []int64{0, 1, 899, 900, 901, maxShift - 1, maxShift, maxShift + 1, 86399, 86400, maxTime - 1, maxTime} {
			liesWithin(t, at, shift)
		}
		for at := int64(0); at <= maxTime; at += 123_456_789 {
			liesWithin(t, at, shift)
		}
	}
	for at := int64(0); at <= maxTime; at += 1_234_567 {
		for _, shift := range someShifts {
			liesWithin(t, at, shift)
		}
	}
}

// isTime tells whether it is one.
func isTime(at int64) bool { return at >= 0 && at <= maxTime }

// A month's days are its dates': each dawns where the one ahead of it ends, the first one where the month starts.
func TestDaysOfAMonth(t *testing.T) {
	for month := int64(12*1969 + 11); month <= 12*6325+4; month++ {
		shift := someShifts[int(month)%len(someShifts)]
		dawn, e := period.Start(month, shift)
		if e != api.OK {
			t.Fatalf("Start(%d, %d): %v", month, shift, e)
		}
		for day := 1; day <= civil.Length(month); day++ {
			d, _ := civil.Clamp(month, day)
			n, _ := civil.Day(d)
			dawns(t, n, shift, dawn)
			for _, at := range []int64{dawn, dawn + 86399} {
				if isTime(at) {
					isIn(t, at, shift, n, civil.Month(d))
				}
			}
			dawn += 86400
		}
		starts(t, month+1, shift, dawn)
	}
}

// Months and days follow one another on each clock, also where there are no times.
func TestWithoutAGap(t *testing.T) {
	for _, shift := range []int64{0, 900, -900, maxShift, -maxShift} {
		for month := int64(firstMonth); month < lastMonth; month++ {
			begin, e := period.Start(month, shift)
			if e != api.OK {
				t.Fatalf("Start(%d, %d): %v", month, shift, e)
			}
			first, _ := civil.First(month)
			days := int64(civil.Length(month))
			dawns(t, first, shift, begin)
			dawns(t, first+days, shift, begin+86400*days)
			starts(t, month+1, shift, begin+86400*days)
		}
	}
}
