package tiers_test

import (
	"iter"
	"maps"
	"math"
	"math/big"
	"math/rand"
	"slices"
	"testing"

	"quitrent/api"
	"quitrent/tiers"
)

// The bounds, as the document tells them.
const (
	maxTiers = 4
	maxUnits = 1099511627776
	maxMoney = 1125899906842624

	least    = math.MinInt64
	greatest = math.MaxInt64
)

// graded are those of the chapter's Examples: up to 10: 5; up to 100: 3; 1.
func graded() []api.Tier { return of(10, 5, 100, 3, 0, 1) }

// of is tiers of these numbers: of each one its Upto, and its Price.
func of(numbers ...int64) []api.Tier {
	var l []api.Tier
	for i := 0; i < len(numbers); i += 2 {
		l = append(l, api.Tier{Upto: numbers[i], Price: numbers[i+1]})
	}
	return l
}

// many is so many tiers, each of one unit but the last, that cost 1.
func many(count int) []api.Tier {
	var l []api.Tier
	for i := range count {
		l = append(l, api.Tier{Upto: int64(i + 1), Price: 1})
	}
	if count > 0 {
		l[count-1].Upto = 0
	}
	return l
}

// someTiers are such as may be: of each number of them, with rising, falling and like prices, with the least and the greatest of all.
var someTiers = [][]api.Tier{
	of(0, 0), of(0, 1), of(0, 7), of(0, maxMoney-1), of(0, maxMoney),
	of(1, 0, 0, 0), of(1, 5, 0, 3), of(1, 3, 0, 5), of(2, 0, 0, 9), of(2, 9, 0, 0), of(maxUnits, 1, 0, 2), of(maxUnits, maxMoney, 0, maxMoney), of(maxUnits-1, 0, 0, maxMoney),
	graded(), of(1, 1, 2, 2, 0, 3), of(1, 3, 2, 2, 0, 1), of(5, 0, 10, maxMoney, 0, 0), of(maxUnits-1, 4, maxUnits, 4, 0, 4), of(8191, maxMoney, 8192, 0, 0, 1),
	of(1, 7, 2, 5, 3, 3, 0, 1), of(10, 1, 100, 10, 1000, 100, 0, 1000), of(1, maxMoney, 2, 0, maxUnits, maxMoney, 0, 0), of(maxUnits-2, 0, maxUnits-1, 1, maxUnits, 2, 0, 3),
	of(4096, maxMoney, 8192, maxMoney, 12288, maxMoney, 0, maxMoney), of(3, 2, 5, 2, 9, 2, 0, 2),
}

// noTiers are such as may not be.
var noTiers = [][]api.Tier{
	nil, {}, many(maxTiers + 1), many(maxTiers + 2), many(100),
	of(1, 1), of(5, 0), of(maxUnits, 1), of(-1, 1), of(maxUnits+1, 1), of(greatest, 1), of(least, 1),
	of(5, 1, 10, 1), of(5, 1, 10, 1, 20, 1), of(5, 1, 10, 1, 20, 1, 30, 1), of(5, 1, -1, 1), of(5, 1, 10, 1, least, 1),
	of(0, 1, 0, 1), of(0, 1, 5, 1), of(0, 1, 5, 1, 0, 1), of(5, 1, 0, 1, 10, 1), of(5, 1, 0, 1, 0, 1), of(5, 1, 10, 1, 0, 1, 0, 1), of(5, 1, 0, 1, 10, 1, 0, 1), of(0, 1, 5, 1, 10, 1, 0, 1),
	of(-1, 1, 0, 1), of(-5, 1, 5, 1, 0, 1), of(5, 1, -5, 1, 0, 1), of(least, 1, 0, 1), of(5, 1, 10, 1, least, 1, 0, 1),
	of(maxUnits+1, 1, 0, 1), of(5, 1, maxUnits+1, 1, 0, 1), of(5, 1, 10, 1, maxUnits+1, 1, 0, 1), of(greatest, 1, 0, 1), of(maxUnits, 1, maxUnits+1, 1, 0, 1),
	of(5, 1, 5, 1, 0, 1), of(maxUnits, 1, maxUnits, 1, 0, 1), of(5, 1, 10, 1, 10, 1, 0, 1), of(1, 1, 1, 1, 2, 1, 0, 1),
	of(5, 1, 4, 1, 0, 1), of(5, 1, 1, 1, 0, 1), of(5, 1, 10, 1, 9, 1, 0, 1), of(10, 1, 5, 1, 20, 1, 0, 1), of(5, 1, 10, 1, 5, 1, 0, 1), of(maxUnits, 1, 1, 1, 0, 1),
	of(0, -1), of(0, maxMoney+1), of(0, least), of(0, greatest),
	of(5, -1, 0, 1), of(5, 1, 0, -1), of(5, maxMoney+1, 0, 1), of(5, 1, 0, maxMoney+1), of(5, 1, 10, -1, 0, 1), of(5, 1, 10, maxMoney+1, 0, 1), of(5, 1, 10, 1, 20, -1, 0, 1), of(5, 1, 10, 1, 20, 1, 0, -1), of(5, 1, 10, 1, 20, 1, 0, maxMoney+1),
}

// someCounts are numbers of units about 0, about powers of two, and about the greatest.
var someCounts = []int64{
	0, 1, 2, 3, 7, 1000, 8191, 8192, 8193, 16383, 16384, 16385, 1 << 31, 1 << 32, maxUnits - 1, maxUnits, maxUnits + 1, 2 * maxUnits,
	maxMoney - 1, maxMoney, maxMoney + 1, 1<<62 - 1, 1 << 62, 1<<62 + 1, greatest / 3, greatest/3 + 1, greatest - 1, greatest,
}

// belowNought are numbers of units that may not be.
var belowNought = []int64{-1, -2, -10, -maxUnits, -1 << 32, -1 << 62, least + 1, least}

// counts are those of units that are worth a look: someCounts, and those about where each tier ends.
func counts(l []api.Tier) []int64 {
	all := slices.Clone(someCounts)
	for _, t := range l {
		if t.Upto > 0 {
			all = append(all, t.Upto-1, t.Upto, t.Upto+1)
		}
	}
	slices.Sort(all)
	return slices.Compact(all)
}

// small are all tiers that may be, of up to four, with Uptos of up to most; their prices tell which is which.
func small(most int64) iter.Seq[[]api.Tier] {
	return func(yield func([]api.Tier) bool) {
		var grow func(ahead []api.Tier) bool
		grow = func(ahead []api.Tier) bool {
			price := int64(1)
			var from int64
			for _, t := range ahead {
				price, from = price*1000, t.Upto
			}
			if !yield(append(slices.Clone(ahead), api.Tier{Price: price})) {
				return false
			}
			for upto := from + 1; upto <= most && len(ahead) < maxTiers-1; upto++ {
				if !grow(append(slices.Clone(ahead), api.Tier{Upto: upto, Price: price})) {
					return false
				}
			}
			return true
		}
		grow(nil)
	}
}

// anyTiers are some that may be, by chance, of any greatness.
func anyTiers(r *rand.Rand) []api.Tier {
	count := 1 + r.Intn(maxTiers)
	ends := map[int64]bool{}
	for len(ends) < count-1 {
		ends[1+r.Int63n(maxUnits>>r.Intn(38))] = true
	}
	l := make([]api.Tier, count)
	for i, upto := range slices.Sorted(maps.Keys(ends)) {
		l[i].Upto = upto
	}
	for i := range l {
		l[i].Price = r.Int63n(maxMoney+1) >> r.Intn(51)
	}
	return l
}

// mayBe tells whether tiers may be, as the chapter's words have it.
func mayBe(l []api.Tier) bool {
	if len(l) == 0 || len(l) > maxTiers {
		return false
	}
	for i, t := range l {
		last := i == len(l)-1
		switch {
		case t.Price < 0 || t.Price > maxMoney:
			return false
		case last && t.Upto != 0:
			return false
		case !last && (t.Upto <= 0 || t.Upto > maxUnits):
			return false
		case !last && i > 0 && t.Upto <= l[i-1].Upto:
			return false
		}
	}
	return true
}

// checksAs fails where Check of these answers otherwise.
func checksAs(t testing.TB, want bool, l []api.Tier) {
	t.Helper()
	was := slices.Clone(l)
	if got := tiers.Check(l); got != want {
		t.Fatalf("Check(%v): %v", was, got)
	}
	if !slices.Equal(l, was) {
		t.Fatalf("Check of %v made them %v", was, l)
	}
}

// tierOf is the place of the first tier whose Upto is no less than the unit's number, or without end.
func tierOf(l []api.Tier, unit int64) int {
	for i, t := range l {
		if t.Upto == 0 || t.Upto >= unit {
			return i
		}
	}
	return -1
}

// counted is how many of n units each tier prices, one by one.
func counted(l []api.Tier, n int64) []int64 {
	spans := make([]int64, len(l))
	for unit := int64(1); unit <= n; unit++ {
		spans[tierOf(l, unit)]++
	}
	return spans
}

func book(n int64) *big.Int { return big.NewInt(n) }

// bookPrice is what n units cost, of any greatness: each unit costs the last tier's price, and those up to each other tier's end what it costs more than the one behind it, or less.
func bookPrice(l []api.Tier, n int64) *big.Int {
	last := len(l) - 1
	all := new(big.Int).Mul(book(l[last].Price), book(n))
	for i, t := range l[:last] {
		more := book(t.Price - l[i+1].Price)
		all.Add(all, more.Mul(more, book(min(n, t.Upto))))
	}
	return all
}

// costs fails where n units have another price.
func costs(t testing.TB, l []api.Tier, n, price int64, e api.Errno) {
	t.Helper()
	was := slices.Clone(l)
	if got, f := tiers.Price(l, n); got != price || f != e {
		t.Fatalf("Price(%v, %d): %d, %v, not %d, %v", l, n, got, f, price, e)
	}
	if !slices.Equal(l, was) {
		t.Fatalf("Price of %v made them %v", was, l)
	}
}

// costsByTheBook fails where n units have another price than by the library's numbers.
func costsByTheBook(t testing.TB, l []api.Tier, n int64) {
	t.Helper()
	want := bookPrice(l, n)
	if want.IsInt64() {
		costs(t, l, n, want.Int64(), api.OK)
		return
	}
	costs(t, l, n, 0, api.ErrOver)
}

// spansAre fails where Spans answers others.
func spansAre(t testing.TB, l []api.Tier, n int64, want ...int64) {
	t.Helper()
	was := slices.Clone(l)
	if got := tiers.Spans(l, n); !slices.Equal(got, want) {
		t.Fatalf("Spans(%v, %d): %d, not %d", l, n, got, want)
	}
	if !slices.Equal(l, was) {
		t.Fatalf("Spans of %v made them %v", was, l)
	}
}

// mayNot fails where these, with n units, have a price, or spans.
func mayNot(t testing.TB, l []api.Tier, n int64) {
	t.Helper()
	costs(t, l, n, 0, api.ErrArg)
	spansAre(t, l, n)
}
