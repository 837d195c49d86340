package tiers_test

import (
	"math/rand"
	"slices"
	"testing"

	"quitrent/api"
	"quitrent/money"
	"quitrent/tiers"
)

// P11.3: what follows.

// followsFrom fails where the spans of n units, of tiers that may be, are not what they have to be, or don't come to n, or one unit more costs other than its tier's price.
func followsFrom(t testing.TB, l []api.Tier, n int64) {
	t.Helper()
	spans := tiers.Spans(l, n)
	if len(spans) != len(l) {
		t.Fatalf("Spans(%v, %d): %d", l, n, spans)
	}
	if all, e := money.Sum(spans...); all != n || e != api.OK {
		t.Fatalf("Spans(%v, %d): %d, which come to %d, %v", l, n, spans, all, e)
	}
	var ahead int64
	for i, x := range l {
		if spans[i] < 0 || i < len(l)-1 && spans[i] > x.Upto-ahead {
			t.Fatalf("Spans(%v, %d): %d, whose place %d may not be", l, n, spans, i)
		}
		if i > 0 && spans[i] > 0 && ahead != sum(spans[:i]) {
			t.Fatalf("Spans(%v, %d): %d, whose place %d begins ahead of its turn", l, n, spans, i)
		}
		ahead = x.Upto
	}
	pricesAsItsSpans(t, l, n, spans)
	if n < greatest {
		oneMore(t, l, n, spans)
	}
}

// sum is what all come to, as spans do that come to a number of 64 bits.
func sum(l []int64) int64 {
	all, _ := money.Sum(l...)
	return all
}

// pricesAsItsSpans fails where the price is not what these spans cost.
func pricesAsItsSpans(t testing.TB, l []api.Tier, n int64, spans []int64) {
	t.Helper()
	parts := make([]int64, len(l))
	for i, x := range l {
		part, e := money.Mul(x.Price, spans[i])
		if e != api.OK {
			costs(t, l, n, 0, e)
			return
		}
		parts[i] = part
	}
	want, e := money.Sum(parts...)
	costs(t, l, n, want, e)
}

// oneMore fails where a unit behind n is not one of its tier's span, and does not cost that tier's price.
func oneMore(t testing.TB, l []api.Tier, n int64, spans []int64) {
	t.Helper()
	at := tierOf(l, n+1)
	with := slices.Clone(spans)
	with[at]++
	spansAre(t, l, n+1, with...)
	price, e := tiers.Price(l, n)
	if e != api.OK {
		costs(t, l, n+1, 0, api.ErrOver)
		return
	}
	price, e = money.Add(price, l[at].Price)
	costs(t, l, n+1, price, e)
}

func TestWhatFollows(t *testing.T) {
	for l := range small(6) {
		for n := range int64(12) {
			followsFrom(t, l, n)
		}
	}
	for _, l := range someTiers {
		for _, n := range counts(l) {
			followsFrom(t, l, n)
		}
	}
	r := rand.New(rand.NewSource(4))
	for range 5_000 {
		l := anyTiers(r)
		for _, n := range counts(l) {
			followsFrom(t, l, n)
		}
		followsFrom(t, l, r.Int63()>>r.Intn(63))
	}
}

// More units cost no less, and are beyond 64 bits where fewer are.
func TestPricesOnlyRise(t *testing.T) {
	r := rand.New(rand.NewSource(5))
	for range 3_000 {
		l := anyTiers(r)
		var last int64
		over := false
		for _, n := range counts(l) {
			price, e := tiers.Price(l, n)
			switch {
			case e == api.ErrOver:
				over = true
			case over || e != api.OK || price < last:
				t.Fatalf("Price(%v, %d): %d, %v, behind %d, beyond %v", l, n, price, e, last, over)
			}
			last = max(last, price)
		}
	}
}

// Of units side by side the later ones are numbered, and so priced, behind the first ones, however they are parted.
func TestUnitsSideBySide(t *testing.T) {
	for l := range small(6) {
		for first := range int64(9) {
			ahead, _ := tiers.Price(l, first)
			before := tiers.Spans(l, first)
			for later := range int64(9) {
				want := ahead
				for unit := first + 1; unit <= first+later; unit++ {
					want += l[tierOf(l, unit)].Price
				}
				costs(t, l, first+later, want, api.OK)
				inOrder(t, l, before, tiers.Spans(l, first+later))
			}
		}
	}
	r := rand.New(rand.NewSource(6))
	for range 5_000 {
		l := anyTiers(r)
		first := r.Int63() >> (1 + r.Intn(62))
		later := r.Int63() >> (1 + r.Intn(62))
		inOrder(t, l, tiers.Spans(l, first), tiers.Spans(l, first+later))
	}
}

// inOrder fails where a later unit is priced by a tier ahead of one that prices a first one.
func inOrder(t testing.TB, l []api.Tier, before, behind []int64) {
	t.Helper()
	last := 0
	for i, n := range before {
		if n > 0 {
			last = i
		}
	}
	for i := range l {
		if behind[i] < before[i] || i < last && behind[i] != before[i] {
			t.Fatalf("of %v spans of %d, then of %d", l, before, behind)
		}
	}
}

// Tiers of one price are as one tier.
func TestTiersOfOnePrice(t *testing.T) {
	r := rand.New(rand.NewSource(7))
	for range 3_000 {
		l := anyTiers(r)
		price := l[0].Price
		for i := range l {
			l[i].Price = price
		}
		for _, n := range counts(l) {
			want, e := tiers.Price(of(0, price), n)
			costs(t, l, n, want, e)
			if product, f := money.Mul(price, n); want != product || e != f {
				t.Fatalf("Price of %d for each of %d: %d, %v, not %d, %v", price, n, want, e, product, f)
			}
		}
	}
}

// A tier that is parted in two of its price prices the same.
func TestTierPartedInTwo(t *testing.T) {
	r := rand.New(rand.NewSource(8))
	for range 3_000 {
		l := anyTiers(r)
		at := r.Intn(len(l))
		var from, to int64 = 0, maxUnits
		if at > 0 {
			from = l[at-1].Upto
		}
		if at < len(l)-1 {
			to = l[at].Upto - 1
		}
		if len(l) == maxTiers || from >= to {
			continue
		}
		parted := slices.Insert(slices.Clone(l), at, api.Tier{Upto: from + 1 + r.Int63n(to-from), Price: l[at].Price})
		for _, n := range counts(parted) {
			want, e := tiers.Price(l, n)
			costs(t, parted, n, want, e)
			spans := tiers.Spans(parted, n)
			spansAre(t, l, n, slices.Replace(slices.Clone(spans), at, at+2, spans[at]+spans[at+1])...)
		}
	}
}

// What was asked ahead leaves nothing behind.
func TestAskedAgain(t *testing.T) {
	for range 3 {
		for _, l := range noTiers {
			mayNot(t, l, 5)
			mayNot(t, graded(), -1)
			costs(t, of(0, maxMoney), greatest, 0, api.ErrOver)
			costs(t, graded(), 12, 56, api.OK)
			spansAre(t, graded(), 12, 10, 2, 0)
		}
	}
}
