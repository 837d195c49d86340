package share_test

import (
	"iter"
	"math"
	"math/big"
	"math/rand"
	"slices"
	"testing"

	"quitrent/api"
	"quitrent/share"
)

// The bounds, as the document tells them.
const (
	maxMoney = 1125899906842624
	maxList  = 100
	maxDays  = 10_000

	least    = math.MinInt64
	greatest = math.MaxInt64
)

func list(numbers ...int64) []int64 { return numbers }

// like is a list of so many of one number.
func like(count int, n int64) []int64 { return slices.Repeat(list(n), count) }

// with is the list with another number at this place.
func with(l []int64, place int, n int64) []int64 {
	l = slices.Clone(l)
	l[place] = n
	return l
}

// someTotals are about 0, about powers of two and of ten, and about the greatest.
var someTotals = []int64{
	0, 1, 2, 3, 5, 7, 10, 99, 100, 101, 1000, 1<<31 - 1, 1 << 31, 1 << 32, 1_000_000_000_007, maxMoney - 1, maxMoney, maxMoney + 1,
	1<<62 - 1, 1 << 62, 1<<62 + 1, greatest / 3, greatest/3 + 1, greatest - 100, greatest - 1, greatest,
}

// belowNought are totals, weights, amounts, days that may not be.
var belowNought = []int64{-1, -2, -100, -maxMoney, -1 << 32, -1 << 62, least + 1, least}

// someWeights are such as may be: like and unlike, with and without 0, of one alone, of 100, and together as many as there may be.
var someWeights = [][]int64{
	{1}, {2}, {7}, {maxMoney}, {greatest - 1}, {greatest},
	{1, 1}, {1, 2}, {2, 1}, {0, 1}, {1, 0}, {0, greatest}, {greatest, 0}, {greatest - 1, 1}, {1, greatest - 1}, {1 << 62, 1<<62 - 1}, {1<<62 - 1, 1 << 62}, {1<<62 - 1, 1<<62 - 1}, {3, greatest - 3},
	{1, 1, 1}, {0, 3, 1}, {1, 2, 3}, {3, 2, 1}, {5, 0, 5}, {0, 0, 1}, {1, 0, 0}, {0, 1, 0}, {greatest / 3, greatest / 3, greatest / 3}, {greatest - 2, 1, 1}, {1 << 62, 1 << 61, 1 << 60}, {1, 1 << 31, 1 << 61}, {1, greatest - 2, 0},
	{1, 1, 1, 1}, {1, 3, 3, 1}, {7, 5, 3, 2}, {0, 2, 0, 2}, {4, 4, 0, 1}, {10, 21, 0, 0}, {1<<61 - 1, 1<<61 - 1, 1<<61 - 1, 1<<61 - 1}, {1, 1, 2, 3, 5, 8, 13}, {1, 10, 100, 1000, 10_000}, {6, 6, 6, 1, 1, 1},
	like(7, 1), like(99, 1), like(maxList, 1), like(maxList, 3), like(maxList, greatest/maxList), with(like(maxList, 0), 0, 1), with(like(maxList, 0), 99, 1), with(like(maxList, 1), 50, 0), with(like(maxList, 1), 99, 1000), with(like(maxList, 1), 0, greatest-99), with(like(maxList, 1), 99, greatest-99),
}

// overWeights are each from 0 on, and together beyond 64 bits.
var overWeights = [][]int64{
	{greatest, 1}, {1, greatest}, {greatest - 1, 2}, {1 << 62, 1 << 62}, {greatest, greatest}, {0, greatest, 0, 1}, {greatest - 1, 1, 1}, {1, 1, greatest - 1}, {1 << 62, 1 << 61, 1 << 61},
	// These would go round to 0, to 1, to what may be.
	{1 << 62, 1 << 62, 1 << 62, 1 << 62}, {greatest, greatest, 2}, {greatest, greatest, 3}, {greatest, 2, greatest, 5, 10},
	with(like(maxList, 1), 0, greatest-98), with(like(maxList, 1), 99, greatest-98), like(maxList, greatest/maxList+1), like(maxList, greatest),
}

// noWeights are such as may not be, whatever the total.
var noWeights = [][]int64{
	nil, {}, {0}, {0, 0}, {0, 0, 0}, like(maxList, 0),
	{-1}, {-2}, {least}, {-1, 0}, {0, -1}, {1, -1}, {-1, 1}, {-1, 2}, {2, -1}, {-1, -1}, {5, 5, -1}, {5, -1, 5}, {-1, 5, 5}, {5, 5, least}, {least, greatest, greatest}, with(like(maxList, 1), 0, -1), with(like(maxList, 1), 99, -1), like(maxList, -1),
	like(101, 1), like(101, 0), like(102, 1), like(1000, 1), with(like(101, 0), 0, 1), with(like(101, 0), 100, 1), with(like(101, 1), 100, -1),
	// Together these are beyond 64 bits, too, or would be, if they didn't come back.
	{greatest, 1, -1}, {greatest, -1, 1}, {-1, greatest, 1}, {-1, greatest, 2}, {greatest, greatest, -1}, {greatest, greatest, least}, {greatest, -1}, {least, least}, {-1, least}, {least, least, 1}, like(101, greatest), like(101, greatest/maxList), with(like(maxList, greatest), 99, -1), with(like(maxList, greatest), 0, -1),
}

// small are all lists of so many numbers from 0 to most.
func small(count int, most int64) iter.Seq[[]int64] {
	return func(yield func([]int64) bool) {
		l := make([]int64, count)
		for {
			if !yield(slices.Clone(l)) {
				return
			}
			at := 0
			for ; at < count && l[at] == most; at++ {
				l[at] = 0
			}
			if at == count {
				return
			}
			l[at]++
		}
	}
}

// anyCount is how many weights, or parts, there are, by chance.
func anyCount(r *rand.Rand) int {
	if r.Intn(3) > 0 {
		return 1 + r.Intn(6)
	}
	return 1 + r.Intn(maxList)
}

// anyWeights are some that may be, by chance: of any greatness, some of them alike, some 0.
func anyWeights(r *rand.Rand) []int64 {
	l := make([]int64, anyCount(r))
	scale := 7 + r.Intn(56)
	for i := range l {
		switch r.Intn(6) {
		case 0:
		case 1:
			l[i] = l[r.Intn(i+1)]
		case 2:
			l[i] = 1 + r.Int63n(4)
		default:
			l[i] = r.Int63() >> scale
		}
	}
	l[r.Intn(len(l))] = 1 + r.Int63()>>scale
	return l
}

// anyParts are some that may be, by chance: amounts, and days of so many.
func anyParts(r *rand.Rand) (amounts, days []int64, of int64) {
	of = 1 + r.Int63n(maxDays)>>r.Intn(14)
	for range anyCount(r) {
		amount, n := r.Int63n(maxMoney+1)>>r.Intn(52), r.Int63n(of+1)
		switch r.Intn(8) {
		case 0:
			amount = maxMoney
		case 1:
			n = of
		case 2:
			n = of - 1
		}
		amounts, days = append(amounts, amount), append(days, n)
	}
	return amounts, days, of
}

// The library's numbers, of any greatness.

func book(n int64) *big.Int { return big.NewInt(n) }

func bookProduct(a, b int64) *big.Int { return new(big.Int).Mul(book(a), book(b)) }

// bookSum is what all come to.
func bookSum(numbers []int64) *big.Int {
	all := new(big.Int)
	for _, n := range numbers {
		all.Add(all, book(n))
	}
	return all
}

// bookPart is the whole part of a product by d, and its rest.
func bookPart(a, b int64, d *big.Int) (part, rest *big.Int) {
	return new(big.Int).QuoRem(bookProduct(a, b), d, new(big.Int))
}

// bookShares are the shares of what may be shared, as the chapter's words have them: the units that are left go one by one to the greatest rest that has had none.
func bookShares(total int64, weights []int64) []int64 {
	all := bookSum(weights)
	shares := make([]int64, len(weights))
	rests := make([]*big.Int, len(weights))
	left := total
	for i, w := range weights {
		part, rest := bookPart(total, w, all)
		shares[i], rests[i] = part.Int64(), rest
		left -= shares[i]
	}
	for ; left > 0; left-- {
		best := -1
		for i, rest := range rests {
			if rest != nil && (best < 0 || rest.Cmp(rests[best]) > 0) {
				best = i
			}
		}
		shares[best]++
		rests[best] = nil
	}
	return shares
}

// bookSplit is what Split answers: its errors as the chapter has them.
func bookSplit(total int64, weights []int64) ([]int64, api.Errno) {
	switch all := bookSum(weights); {
	case total < 0, len(weights) > maxList, slices.ContainsFunc(weights, below), all.Sign() == 0:
		return nil, api.ErrArg
	case !all.IsInt64():
		return nil, api.ErrOver
	}
	return bookShares(total, weights), api.OK
}

func below(n int64) bool { return n < 0 }

// bookParts are the parts of what may be prorated: the last one is the whole less all those ahead of it.
func bookParts(amounts, days []int64, of int64) []int64 {
	products := new(big.Int)
	var parts []int64
	for i, amount := range amounts {
		products.Add(products, bookProduct(amount, days[i]))
		part, _ := bookPart(amount, days[i], book(of))
		parts = append(parts, part.Int64())
	}
	last := len(parts) - 1
	whole := products.Quo(products, book(of))
	parts[last] = whole.Sub(whole, bookSum(parts[:last])).Int64()
	return parts
}

// bookProrate is what Prorate answers: its errors as the chapter has them.
func bookProrate(amounts, days []int64, of int64) ([]int64, api.Errno) {
	switch {
	case len(amounts) != len(days), len(amounts) == 0, len(amounts) > maxList, of < 1, of > maxDays:
		return nil, api.ErrArg
	}
	for i, amount := range amounts {
		if amount < 0 || amount > maxMoney || days[i] < 0 || days[i] > of {
			return nil, api.ErrArg
		}
	}
	return bookParts(amounts, days, of), api.OK
}

// lent is the list, with room behind it that is not the call's.
func lent(l []int64) []int64 {
	return append(slices.Clone(l), 77, 77, 77)[:len(l)]
}

// stays fails where a list that was lent is not what it was, or the room behind it.
func stays(t testing.TB, what string, got, was []int64) {
	t.Helper()
	if got = got[:len(was)+3]; !slices.Equal(got, append(slices.Clone(was), 77, 77, 77)) {
		t.Fatalf("the %s that were handed in, %d, became %d", what, was, got)
	}
}

// splits fails where Split answers otherwise.
func splits(t testing.TB, total int64, weights, want []int64, e api.Errno) {
	t.Helper()
	w := lent(weights)
	if got, f := share.Split(total, w); !slices.Equal(got, want) || f != e {
		t.Fatalf("Split(%d, %d): %d, %v, not %d, %v", total, weights, got, f, want, e)
	}
	stays(t, "weights", w, weights)
}

// splitsByTheBook fails where Split answers otherwise than by the library's numbers.
func splitsByTheBook(t testing.TB, total int64, weights []int64) {
	t.Helper()
	want, e := bookSplit(total, weights)
	splits(t, total, weights, want, e)
}

// prorates fails where Prorate answers otherwise.
func prorates(t testing.TB, amounts, days []int64, of int64, want []int64, e api.Errno) {
	t.Helper()
	a, d := lent(amounts), lent(days)
	if got, f := share.Prorate(a, d, of); !slices.Equal(got, want) || f != e {
		t.Fatalf("Prorate(%d, %d, %d): %d, %v, not %d, %v", amounts, days, of, got, f, want, e)
	}
	stays(t, "amounts", a, amounts)
	stays(t, "days", d, days)
}

// proratesByTheBook fails where Prorate answers otherwise than by the library's numbers.
func proratesByTheBook(t testing.TB, amounts, days []int64, of int64) {
	t.Helper()
	want, e := bookProrate(amounts, days, of)
	prorates(t, amounts, days, of, want, e)
}
