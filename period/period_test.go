package period_test

import (
	"math"
	"slices"
	"testing"
	"time"

	"quitrent/api"
	"quitrent/period"
)

// The chapter's examples.

func TestExamples(t *testing.T) {
	for range 2 { // the second time as the first: nothing is left behind
		isIn(t, 0, 0, 0, 12*1970)
		isIn(t, 0, -900, -1, 12*1969+11)
		starts(t, 12*1970+1, 3600, 2674800)
		if period.Check(901) {
			t.Error("Check(901)")
		}
	}
}

// The bounds that the tests write out are those that all layers share.
func TestBounds(t *testing.T) {
	if maxTime != api.MaxTime || maxShift != api.MaxShift {
		t.Errorf("MaxTime %d, MaxShift %d", api.MaxTime, api.MaxShift)
	}
}

// P9.1: Check, Day, Month.

func TestCheck(t *testing.T) {
	all := slices.Collect(shifts())
	for n := int64(-maxShift - 1); n <= maxShift+1; n++ {
		if got, want := period.Check(n), slices.Contains(all, n); got != want {
			t.Errorf("Check(%d): %v", n, got)
		}
	}
	for _, n := range []int64{0, 900, -900, maxShift, -maxShift} {
		if !period.Check(n) {
			t.Errorf("Check(%d): false", n)
		}
	}
	for _, n := range noShifts {
		if period.Check(n) {
			t.Errorf("Check(%d): true", n)
		}
	}
	for shift := range shifts() {
		for _, n := range []int64{shift - 1, shift + 1} {
			if period.Check(n) {
				t.Errorf("Check(%d): true", n)
			}
		}
	}
}

func TestFirstAndLastTime(t *testing.T) {
	for shift := range shifts() {
		if shift < 0 {
			isIn(t, 0, shift, -1, 12*1969+11)
		} else {
			isIn(t, 0, shift, 0, 12*1970)
		}
	}
	// 2^37 seconds are 1,590,728 days and 54,272 seconds more: on April 1, 6325, at 15:04:32.
	const day, month = 1590728, 12*6325 + 3
	for shift := range shifts() {
		if 54272+shift >= 86400 {
			isIn(t, maxTime, shift, day+1, month)
		} else {
			isIn(t, maxTime, shift, day, month)
		}
	}
}

func TestTimesThatAreNone(t *testing.T) {
	for _, at := range noTimes {
		for shift := range shifts() {
			isInNone(t, at, shift)
		}
		for _, shift := range noShifts {
			isInNone(t, at, shift)
		}
	}
}

func TestTimesOfNoShift(t *testing.T) {
	for _, at := range []int64{0, 1, 900, 86399, 86400, maxShift, 1 << 32, maxTime - 1, maxTime} {
		for _, shift := range noShifts {
			isInNone(t, at, shift)
		}
	}
}

func TestClocksBelowZero(t *testing.T) {
	for shift := range shifts() {
		if shift >= 0 {
			continue
		}
		isIn(t, 0, shift, -1, 12*1969+11)
		isIn(t, -shift-1, shift, -1, 12*1969+11) // the last second of 1969
		isIn(t, -shift, shift, 0, 12*1970)
		isIn(t, -shift+1, shift, 0, 12*1970)
	}
}

func TestSecondsAboutMidnight(t *testing.T) {
	for _, d := range []struct{ year, month, day int }{ // the first day behind that midnight
		{1970, 1, 2}, {1970, 2, 1}, {1970, 12, 31}, {1971, 1, 1}, {1972, 2, 29}, {1972, 3, 1}, {1973, 2, 28}, {1973, 3, 1},
		{2000, 2, 28}, {2000, 2, 29}, {2000, 3, 1}, {2001, 1, 1}, {2023, 3, 1}, {2024, 2, 29}, {2024, 3, 1}, {2024, 5, 1}, {2024, 12, 31}, {2025, 1, 1},
		{2038, 1, 19}, {2100, 2, 28}, {2100, 3, 1}, {2400, 2, 29}, {2400, 3, 1}, {4000, 3, 1}, {6324, 3, 1}, {6325, 1, 1}, {6325, 3, 1}, {6325, 4, 1},
	} {
		midnight := seconds(d.year, d.month, d.day)
		day, month := midnight/86400, int64(12*d.year+d.month-1)
		before := month
		if d.day == 1 {
			before--
		}
		for shift := range shifts() {
			isIn(t, midnight-shift-1, shift, day-1, before)
			isIn(t, midnight-shift, shift, day, month)
			isIn(t, midnight-shift+1, shift, day, month)
		}
	}
}

func TestFebruaries(t *testing.T) {
	for year, days := range map[int]int64{1970: 28, 1972: 29, 2000: 29, 2023: 28, 2024: 29, 2100: 28, 2200: 28, 2300: 28, 2400: 29, 6324: 29, 6325: 28} {
		begin, february := seconds(year, 2, 1), int64(12*year+1)
		for _, shift := range someShifts {
			isIn(t, begin-shift-1, shift, begin/86400-1, february-1)
			for day := range days {
				isIn(t, begin+86400*day-shift, shift, begin/86400+day, february)
				isIn(t, begin+86400*day-shift+86399, shift, begin/86400+day, february)
			}
			isIn(t, begin+86400*days-shift, shift, begin/86400+days, february+1)
		}
	}
}

// All days that times have, counted one behind the other, of each its first second and its last one.
func TestEveryDay(t *testing.T) {
	all := slices.Collect(shifts())
	day, month, left := int64(0), int64(12*1970), 31
	for midnight := int64(0); midnight+86399+maxShift <= maxTime; midnight += 86400 {
		shift := all[int(day)%len(all)]
		if midnight >= shift { // on the very first day, a clock that is ahead shows it already
			isIn(t, midnight-shift, shift, day, month)
		}
		isIn(t, midnight-shift+86399, shift, day, month)
		day, left = day+1, left-1
		if left == 0 {
			month++
			// The library takes day 0 of a month as the last one ahead of it.
			left = time.Date(int(month/12), time.Month(month%12+2), 0, 0, 0, 0, 0, time.UTC).Day()
		}
	}
	if day < maxTime/86400-2 {
		t.Errorf("the days end at %d", day)
	}
}

func TestTimesAsTheLibraryHasThem(t *testing.T) {
	for at := int64(0); at <= maxTime; at += 700_001 {
		for _, shift := range someShifts {
			day, month := byTheBook(at, shift)
			isIn(t, at, shift, day, month)
		}
	}
	for at := range int64(200_000) { // from the first one on, each of them
		day, month := byTheBook(at, -maxShift)
		isIn(t, at, -maxShift, day, month)
	}
}

// FuzzTime takes any number as a time, and as a shift.
func FuzzTime(f *testing.F) {
	f.Add(int64(0), int64(-900))
	f.Add(int64(2674800), int64(3600))
	f.Add(int64(maxTime), int64(maxShift))
	f.Add(int64(math.MinInt64), int64(math.MaxInt64))
	f.Fuzz(func(t *testing.T, at, shift int64) {
		ok := shift >= -maxShift && shift <= maxShift && shift%900 == 0
		if period.Check(shift) != ok {
			t.Fatalf("Check(%d): %v", shift, !ok)
		}
		if !ok || at < 0 || at > maxTime {
			isInNone(t, at, shift)
			return
		}
		day, month := byTheBook(at, shift)
		isIn(t, at, shift, day, month)
		liesWithin(t, at, shift)
	})
}
