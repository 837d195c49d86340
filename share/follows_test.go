package share_test

import (
	"math/big"
	"math/rand"
	"slices"
	"testing"

	"quitrent/api"
	"quitrent/share"
)

// P12.3: what follows.

// splitsAsItHasTo fails where shares don't come to the total, or are not each within one of the exact share, or a greater weight has less, or a unit that was left went to a lesser rest, or past one that is alike.
func splitsAsItHasTo(t testing.TB, total int64, weights []int64) {
	t.Helper()
	shares, e := share.Split(total, weights)
	if e != api.OK {
		if len(shares) != 0 {
			t.Fatalf("Split(%d, %d): %d beside %v", total, weights, shares, e)
		}
		return
	}
	if len(shares) != len(weights) {
		t.Fatalf("Split(%d, %d): %d", total, weights, shares)
	}
	if bookSum(shares).Cmp(book(total)) != 0 {
		t.Fatalf("Split(%d, %d): %d, which come to %v", total, weights, shares, bookSum(shares))
	}
	all := bookSum(weights)
	overs := make([]*big.Int, len(shares))
	for i, w := range weights {
		// How much more than its exact share it has, in parts of all weights.
		overs[i] = new(big.Int).Mul(book(shares[i]), all)
		overs[i].Sub(overs[i], bookProduct(total, w))
		if overs[i].CmpAbs(all) >= 0 {
			t.Fatalf("Split(%d, %d): %d, whose place %d is not within one of the exact share", total, weights, shares, i)
		}
		if w == 0 && shares[i] != 0 {
			t.Fatalf("Split(%d, %d): %d, whose place %d is of no weight", total, weights, shares, i)
		}
	}
	inOrder(t, total, weights, shares, overs)
}

// inOrder fails where of two weights the greater has less, or of two rests the wrong one has a unit that was left. Who has one has so much more than the exact share as its rest has less than 1; who has none has less by its rest.
func inOrder(t testing.TB, total int64, weights, shares []int64, overs []*big.Int) {
	t.Helper()
	all := bookSum(weights)
	for i := range shares {
		for j := range shares {
			if weights[i] > weights[j] && shares[i] < shares[j] {
				t.Fatalf("Split(%d, %d): %d, where the place %d has less than %d", total, weights, shares, i, j)
			}
			if overs[i].Sign() <= 0 || overs[j].Sign() > 0 {
				continue
			}
			rest := new(big.Int).Sub(all, overs[i])
			other := new(big.Int).Neg(overs[j])
			if by := rest.Cmp(other); by < 0 || by == 0 && i > j {
				t.Fatalf("Split(%d, %d): %d, where a unit that was left went to the place %d, not %d", total, weights, shares, i, j)
			}
		}
	}
}

func TestWhatFollowsOfShares(t *testing.T) {
	for count := 1; count <= 5; count++ {
		for weights := range small(count, 4) {
			for total := range int64(9) {
				splitsAsItHasTo(t, total, weights)
			}
		}
	}
	for _, weights := range slices.Concat(someWeights, overWeights, noWeights) {
		for _, total := range slices.Concat(someTotals, belowNought) {
			splitsAsItHasTo(t, total, weights)
		}
	}
	r := rand.New(rand.NewSource(3))
	for range 3_000 {
		splitsAsItHasTo(t, r.Int63()>>r.Intn(63), anyWeights(r))
	}
}

// proratesAsItHasTo fails where the parts don't come to the whole, or one but the last is not its own whole part, or the last one is less, or has one unit more for each of the others at most.
func proratesAsItHasTo(t testing.TB, amounts, days []int64, of int64) {
	t.Helper()
	parts, e := share.Prorate(amounts, days, of)
	if e != api.OK {
		if len(parts) != 0 {
			t.Fatalf("Prorate(%d, %d, %d): %d beside %v", amounts, days, of, parts, e)
		}
		return
	}
	if len(parts) != len(amounts) {
		t.Fatalf("Prorate(%d, %d, %d): %d", amounts, days, of, parts)
	}
	// Below the whole and one more, and no less than the whole: all times the days are from the products on, less the days.
	left := new(big.Int).Mul(bookSum(parts), book(of))
	left.Neg(left)
	for i := range amounts {
		left.Add(left, bookProduct(amounts[i], days[i]))
	}
	if left.Sign() < 0 || left.Cmp(book(of)) >= 0 {
		t.Fatalf("Prorate(%d, %d, %d): %d, which don't come to the whole", amounts, days, of, parts)
	}
	last := len(parts) - 1
	for i, part := range parts {
		// What its amount and days come to beyond it, in parts of one unit.
		rest := new(big.Int).Sub(bookProduct(amounts[i], days[i]), bookProduct(part, of))
		switch {
		case i < last && (rest.Sign() < 0 || rest.Cmp(book(of)) >= 0):
			t.Fatalf("Prorate(%d, %d, %d): %d, whose place %d is not its own whole part", amounts, days, of, parts, i)
		case i == last && (rest.Cmp(bookProduct(of, -int64(last))) < 0 || rest.Cmp(book(of)) >= 0):
			t.Fatalf("Prorate(%d, %d, %d): %d, whose last one is too great, or too little", amounts, days, of, parts)
		}
	}
}

func TestWhatFollowsOfParts(t *testing.T) {
	for count := 1; count <= 3; count++ {
		for amounts := range small(count, 4) {
			for of := int64(1); of <= 4; of++ {
				for days := range small(count, of) {
					proratesAsItHasTo(t, amounts, days, of)
				}
			}
		}
	}
	r := rand.New(rand.NewSource(4))
	for range 20_000 {
		amounts, days, of := anyParts(r)
		proratesAsItHasTo(t, amounts, days, of)
		proratesAsItHasTo(t, amounts, with(days, r.Intn(len(days)), of+1), of)
	}
}

// One amount, whose days are parted anyhow, comes to that amount, as shares by these days do.
func TestPartedDaysComeToTheAmount(t *testing.T) {
	r := rand.New(rand.NewSource(5))
	for range 5_000 {
		of := 1 + r.Int63n(maxDays)
		amount := r.Int63n(maxMoney+1) >> r.Intn(51)
		var days []int64
		for left := of; left > 0; {
			n := 1 + r.Int63n(left)
			if len(days) == maxList-1 {
				n = left
			}
			days = append(days, n)
			left -= n
		}
		parts, e := share.Prorate(like(len(days), amount), days, of)
		shares, f := share.Split(amount, days)
		if e != api.OK || f != api.OK {
			t.Fatalf("of %d, by %d of %d: %v, %v", amount, days, of, e, f)
		}
		if all := bookSum(parts); all.Cmp(book(amount)) != 0 {
			t.Fatalf("Prorate of %d, by %d of %d: %d, which come to %v", amount, days, of, parts, all)
		}
		for i := range parts {
			if i < len(parts)-1 && shares[i] != parts[i] && shares[i] != parts[i]+1 {
				t.Fatalf("of %d, by %d of %d: the parts are %d, the shares %d", amount, days, of, parts, shares)
			}
		}
	}
}

// Weights that are all so many times greater have the same shares; those of 0 between them have none, and change nothing.
func TestSharesHangOnTheWeightsAmongEachOther(t *testing.T) {
	r := rand.New(rand.NewSource(6))
	for range 5_000 {
		var small, great []int64
		times := 1 + r.Int63()>>(20+r.Intn(43))
		for range 1 + r.Intn(maxList) {
			w := r.Int63n(10)
			small, great = append(small, w), append(great, w*times)
		}
		total := r.Int63() >> r.Intn(63)
		want, e := share.Split(total, small)
		splits(t, total, great, want, e)
		if at := r.Intn(len(small) + 1); e == api.OK && len(small) < maxList {
			splits(t, total, slices.Insert(small, at, 0), slices.Insert(want, at, 0), api.OK)
		}
	}
}

// What was asked ahead leaves nothing behind.
func TestAskedAgain(t *testing.T) {
	for range 3 {
		for _, weights := range noWeights {
			splits(t, 5, weights, nil, api.ErrArg)
			splits(t, 1, list(greatest, 1), nil, api.ErrOver)
			prorates(t, list(1), list(2), 1, nil, api.ErrArg)
			splits(t, 10, list(1, 1, 1), list(4, 3, 3), api.OK)
			prorates(t, list(10, 11), list(1, 1), 3, list(3, 4), api.OK)
		}
	}
}
