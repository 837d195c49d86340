package period_test

import (
	"math"
	"slices"
	"testing"
)

// P9.2: Dawn, Start.

func TestKnownDawns(t *testing.T) {
	for shift := range shifts() {
		dawns(t, 0, shift, -shift)
		dawns(t, -1, shift, -86400-shift)
		dawns(t, 1, shift, 86400-shift)
		dawns(t, 11017, shift, 951868800-shift)       // 2000-03-01
		dawns(t, firstDay, shift, -62135596800-shift) // 0001-01-01
		dawns(t, lastDay, shift, 253402214400-shift)  // 9999-12-31
		dawns(t, firstDay+1, shift, -62135596800+86400-shift)
		dawns(t, lastDay-1, shift, 253402214400-86400-shift)
	}
	dawns(t, -1, 900, -87300)
	dawns(t, 0, 900, -900)
	dawns(t, 0, -900, 900)
}

func TestEveryDawn(t *testing.T) {
	all := slices.Collect(shifts())
	for day := int64(firstDay); day <= lastDay; day++ {
		shift := all[int(day-firstDay)%len(all)]
		dawns(t, day, shift, 86400*day-shift)
	}
}

func TestDaysThatAreNone(t *testing.T) {
	for _, day := range noDays {
		for shift := range shifts() {
			dawnsNot(t, day, shift)
		}
		for _, shift := range noShifts {
			dawnsNot(t, day, shift)
		}
	}
}

func TestDawnsOfNoShift(t *testing.T) {
	for _, day := range []int64{firstDay, firstDay + 1, -1, 0, 1, 11017, lastDay - 1, lastDay} {
		for _, shift := range noShifts {
			dawnsNot(t, day, shift)
		}
	}
}

func TestKnownStarts(t *testing.T) {
	for shift := range shifts() {
		starts(t, 12*1970, shift, -shift)
		starts(t, 12*1970+1, shift, 31*86400-shift)
		starts(t, 12*1969+11, shift, -31*86400-shift)
		starts(t, 12*2000+2, shift, 951868800-shift) // behind a February of 29 days
		starts(t, 12*2000+1, shift, 951868800-29*86400-shift)
		starts(t, 12*1900+2, shift, -2203891200-shift) // behind a February of 28 days
		starts(t, 12*1900+1, shift, -2203891200-28*86400-shift)
		starts(t, firstMonth, shift, -62135596800-shift)
		starts(t, firstMonth+1, shift, -62135596800+31*86400-shift)
		starts(t, lastMonth, shift, 253402214400-30*86400-shift)
		starts(t, lastMonth-1, shift, 253402214400-60*86400-shift)
	}
	starts(t, 12*1970, 900, -900)
	starts(t, 12*1970, -900, 900)
}

func TestEveryStart(t *testing.T) {
	for month := int64(firstMonth); month <= lastMonth; month++ {
		begin := seconds(int(month/12), int(month%12)+1, 1)
		for _, shift := range someShifts {
			starts(t, month, shift, begin-shift)
		}
	}
}

func TestMonthsThatAreNone(t *testing.T) {
	for _, month := range noMonths {
		for shift := range shifts() {
			startsNot(t, month, shift)
		}
		for _, shift := range noShifts {
			startsNot(t, month, shift)
		}
	}
}

func TestStartsOfNoShift(t *testing.T) {
	for _, month := range []int64{firstMonth, firstMonth + 1, 12*1969 + 11, 12 * 1970, 12*2024 + 1, lastMonth - 1, lastMonth} {
		for _, shift := range noShifts {
			startsNot(t, month, shift)
		}
	}
}

// FuzzBegin takes any number as a day's and as a month's, and any as a shift.
func FuzzBegin(f *testing.F) {
	f.Add(int64(-1), int64(900))
	f.Add(int64(12*1970+1), int64(3600))
	f.Add(int64(firstDay), int64(maxShift))
	f.Add(int64(math.MaxInt64), int64(-maxShift))
	f.Fuzz(func(t *testing.T, n, shift int64) {
		ok := shift >= -maxShift && shift <= maxShift && shift%900 == 0
		if ok && n >= firstDay && n <= lastDay {
			dawns(t, n, shift, 86400*n-shift)
		} else {
			dawnsNot(t, n, shift)
		}
		if ok && n >= firstMonth && n <= lastMonth {
			starts(t, n, shift, seconds(int(n/12), int(n%12)+1, 1)-shift)
		} else {
			startsNot(t, n, shift)
		}
	})
}
