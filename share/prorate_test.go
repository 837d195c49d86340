package share_test

import (
	"math/rand"
	"slices"
	"testing"

	"quitrent/api"
	"quitrent/share"
)

// P12.2: Prorate.

func TestKnownParts(t *testing.T) {
	for _, x := range []struct {
		amounts, days []int64
		of            int64
		want          []int64
	}{
		{list(100, 100), list(10, 21), 31, list(32, 68)}, {list(10, 11), list(1, 1), 3, list(3, 4)},
		{list(0), list(0), 1, list(0)}, {list(0), list(1), 1, list(0)}, {list(7), list(0), 1, list(0)}, {list(7), list(1), 1, list(7)}, {list(7), list(1), 2, list(3)}, {list(7), list(2), 2, list(7)}, {list(7), list(1), 8, list(0)}, {list(7), list(7), 8, list(6)},
		{list(maxMoney), list(1), 1, list(maxMoney)}, {list(maxMoney), list(maxDays), maxDays, list(maxMoney)}, {list(maxMoney), list(maxDays - 1), maxDays, list(1125787316851939)}, {list(maxMoney), list(1), maxDays, list(112589990684)}, {list(maxMoney), list(0), maxDays, list(0)},
		// What the whole has more goes to the last one, whether it has a rest or not, an amount, days.
		{list(1, 1), list(1, 1), 2, list(0, 1)}, {list(1, 1, 1), list(1, 1, 0), 2, list(0, 0, 1)}, {list(1, 1, 0), list(1, 1, 1), 2, list(0, 0, 1)}, {list(1, 1, 5), list(1, 1, 2), 2, list(0, 0, 6)}, {list(1, 1, 5), list(1, 1, 0), 2, list(0, 0, 1)},
		{list(2, 2, 2), list(1, 1, 1), 3, list(0, 0, 2)}, {list(5, 5, 5, 1), list(2, 2, 2, 0), 3, list(3, 3, 3, 1)}, {list(5, 5, 1), list(2, 2, 0), 3, list(3, 3, 0)}, {list(5, 2, 2), list(1, 1, 1), 3, list(1, 0, 2)},
		// These are more days together than the days by which it goes, and fewer.
		{list(10, 10, 10), list(3, 3, 3), 3, list(10, 10, 10)}, {list(10, 10, 10), list(1, 0, 1), 30, list(0, 0, 0)}, {list(100, 100), list(31, 31), 31, list(100, 100)},
		{list(31, 310), list(31, 0), 31, list(31, 0)}, {list(28, 29), list(28, 1), 29, list(27, 1)},
	} {
		prorates(t, x.amounts, x.days, x.of, x.want, api.OK)
	}
}

// A hundred parts of one unit less than a whole each: what they have more together is 99.
func TestTheMostThatGoesToTheLast(t *testing.T) {
	for _, count := range []int{1, 2, 3, 50, 99, maxList} {
		last := count - 1
		for _, amount := range list(1, 10_001, 1_000_000_001, maxMoney-2623) {
			// All but a 10,000th of one unit are each one's rest.
			each := amount - amount/maxDays - 1
			if amount%maxDays != 1 {
				t.Fatalf("%d by %d has another rest", amount, maxDays)
			}
			more := int64(count) - 1
			prorates(t, like(count, amount), like(count, maxDays-1), maxDays, with(like(count, each), last, each+more), api.OK)
		}
		halves := int64(count / 2)
		prorates(t, like(count, 1), like(count, 1), 2, with(like(count, 0), last, halves), api.OK)
		prorates(t, like(count, maxMoney), like(count, maxDays), maxDays, like(count, maxMoney), api.OK)
		prorates(t, like(count, maxMoney-1), like(count, 1), 2, with(like(count, maxMoney/2-1), last, maxMoney/2-1+halves), api.OK)
	}
}

func TestPartsOfUpToAHundred(t *testing.T) {
	for count := range maxList + 5 {
		switch {
		case count == 0 || count > maxList:
			prorates(t, like(count, 10), like(count, 1), 2, nil, api.ErrArg)
			prorates(t, like(count, 0), like(count, 0), 1, nil, api.ErrArg)
		default:
			prorates(t, like(count, 10), like(count, 1), 2, like(count, 5), api.OK)
			prorates(t, like(count, 0), like(count, 0), 1, like(count, 0), api.OK)
		}
	}
	prorates(t, nil, nil, 31, nil, api.ErrArg)
	prorates(t, list(), list(), 31, nil, api.ErrArg)
	prorates(t, like(1000, 1), like(1000, 1), 31, nil, api.ErrArg)
}

func TestPartsOfUnlikeLists(t *testing.T) {
	for amounts := range maxList + 3 {
		for days := range maxList + 3 {
			if amounts != days {
				prorates(t, like(amounts, 10), like(days, 1), 2, nil, api.ErrArg)
			}
		}
	}
	prorates(t, nil, list(1), 2, nil, api.ErrArg)
	prorates(t, list(1), nil, 2, nil, api.ErrArg)
	prorates(t, list(1, 1), list(1), 2, nil, api.ErrArg)
	prorates(t, list(1), list(1, 1), 2, nil, api.ErrArg)
	prorates(t, list(1, 0), list(1), 2, nil, api.ErrArg)
	prorates(t, list(1), list(1, 0), 2, nil, api.ErrArg)
}

// Amounts at the bounds, in each place.
func TestAmountsThatMayBe(t *testing.T) {
	for _, count := range []int{1, 2, 3, 99, maxList} {
		for at := range count {
			for _, n := range slices.Concat(belowNought, list(maxMoney+1, maxMoney+2, 2*maxMoney, 1<<62, greatest-1, greatest)) {
				prorates(t, with(like(count, 10), at, n), like(count, 1), 2, nil, api.ErrArg)
				prorates(t, with(like(count, 10), at, n), like(count, 0), 2, nil, api.ErrArg)
			}
			for _, n := range list(0, 2, maxMoney-2, maxMoney) {
				prorates(t, with(like(count, 10), at, n), like(count, 1), 2, with(like(count, 5), at, n/2), api.OK)
			}
		}
	}
}

// The days by which it goes, at the bounds.
func TestDaysByWhichItGoes(t *testing.T) {
	for _, of := range slices.Concat(belowNought, list(0, maxDays+1, maxDays+2, 20_000, 1<<31, 1<<32+1, maxMoney, 1<<62, greatest-1, greatest)) {
		prorates(t, list(10), list(0), of, nil, api.ErrArg)
		prorates(t, list(10), list(1), of, nil, api.ErrArg)
		prorates(t, list(0), list(0), of, nil, api.ErrArg)
		prorates(t, list(10, 10), list(1, of), of, nil, api.ErrArg)
	}
	for of := int64(1); of <= maxDays; of++ {
		prorates(t, list(of, of), list(1, of), of, list(1, of), api.OK)
		prorates(t, list(of, of-1), list(0, 1), of, list(0, 0), api.OK)
		if of > 1 {
			prorates(t, list(3*of+1, of-1, 0), list(1, 1, 0), of, list(3, 0, 1), api.OK)
			prorates(t, list(3*of+1, of-2, 0), list(1, 1, 0), of, list(3, 0, 0), api.OK)
		}
	}
	prorates(t, list(maxDays), list(1), maxDays, list(1), api.OK)
	prorates(t, list(maxDays), list(1), maxDays+1, nil, api.ErrArg)
}

// Days at the bounds, in each place.
func TestDaysThatMayBe(t *testing.T) {
	for _, of := range list(1, 2, 28, 31, 9999, maxDays) {
		for _, count := range []int{1, 2, 3, 99, maxList} {
			amounts := like(count, 10*of)
			for at := range count {
				for _, n := range slices.Concat(belowNought, list(of+1, of+2, 2*of+1, maxDays+1, 1<<32, 1<<62, greatest-1, greatest)) {
					prorates(t, amounts, with(like(count, 1), at, n), of, nil, api.ErrArg)
				}
				for _, n := range list(0, 1, of-1, of) {
					prorates(t, amounts, with(like(count, 1), at, n), of, with(like(count, 10), at, 10*n), api.OK)
				}
			}
		}
	}
}

func TestPartsByTheBook(t *testing.T) {
	for count := 0; count <= 3; count++ {
		for amounts := range small(count, 4) {
			for of := int64(-1); of <= 4; of++ {
				for days := range small(count, max(0, of)+1) {
					proratesByTheBook(t, amounts, days, of)
				}
			}
		}
	}
	r := rand.New(rand.NewSource(2))
	for range 20_000 {
		amounts, days, of := anyParts(r)
		proratesByTheBook(t, amounts, days, of)
		at := r.Intn(len(days))
		proratesByTheBook(t, amounts, with(days, at, r.Int63n(3*of)-of), of)
		proratesByTheBook(t, with(amounts, at, r.Int63n(3*maxMoney)-maxMoney), days, of)
		proratesByTheBook(t, amounts, days, r.Int63n(2*maxDays))
	}
}

// One list may be both the amounts and the days.
func TestPartsOfOneList(t *testing.T) {
	l := list(3, 5, 0, 7)
	got, e := share.Prorate(l, l, 7)
	if !slices.Equal(got, list(1, 3, 0, 7)) || e != api.OK || !slices.Equal(l, list(3, 5, 0, 7)) {
		t.Errorf("Prorate of one list: %d, %v, and it is %d", got, e, l)
	}
}

// Whoever changes what was answered, or what was handed in, changes no other answer.
func TestPartsAreNewMemory(t *testing.T) {
	amounts, days := list(10, 11), list(1, 1)
	first, _ := share.Prorate(amounts, days, 3)
	second, _ := share.Prorate(amounts, days, 3)
	first[0], amounts[0], days[1] = 70, 30, 3
	if !slices.Equal(second, list(3, 4)) || !slices.Equal(first, list(70, 4)) || !slices.Equal(amounts, list(30, 11)) || !slices.Equal(days, list(1, 3)) {
		t.Errorf("the answers became %d and %d, the amounts %d, the days %d", first, second, amounts, days)
	}
	prorates(t, amounts, days, 3, list(10, 11), api.OK)
	prorates(t, list(10, 11), list(1, 1), 3, list(3, 4), api.OK)
}

func FuzzProrate(f *testing.F) {
	f.Add([]byte{100, 100}, []byte{10, 21}, int64(31), byte(0))
	f.Add([]byte{10, 11}, []byte{1, 1}, int64(3), byte(0))
	f.Add(numbersAsBytes(maxMoney, maxMoney-1), []byte{1, 1}, int64(maxDays), byte(1))
	f.Add(numbersAsBytes(maxMoney, maxMoney-1), numbersAsBytes(maxDays, 3), int64(maxDays), byte(3))
	f.Fuzz(func(t *testing.T, a, d []byte, of int64, wide byte) {
		amounts, days := numbersOf(a, wide%2 == 1), numbersOf(d, wide/2%2 == 1)
		proratesByTheBook(t, amounts, days, of)
		proratesAsItHasTo(t, amounts, days, of)
		// So many of each, within the bounds, as chance seldom brings.
		count := min(len(amounts), len(days))
		of = 1 + max(0, of)%maxDays
		for i := range count {
			amounts[i], days[i] = max(0, amounts[i])%(maxMoney+1), max(0, days[i])%(of+1)
		}
		proratesByTheBook(t, amounts[:count], days[:count], of)
		proratesAsItHasTo(t, amounts[:count], days[:count], of)
	})
}
