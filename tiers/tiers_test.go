package tiers_test

import (
	"math/rand"
	"slices"
	"testing"

	"quitrent/api"
	"quitrent/tiers"
)

// P11.1: Check, Spans.

func TestTiersThatMayBe(t *testing.T) {
	for _, l := range someTiers {
		checksAs(t, true, l)
	}
	for count := range 10 {
		checksAs(t, count >= 1 && count <= maxTiers, many(count))
	}
	for l := range small(5) {
		checksAs(t, true, l)
	}
}

func TestTiersThatMayNotBe(t *testing.T) {
	for _, l := range noTiers {
		checksAs(t, false, l)
	}
}

// Of tiers that may be one price, or one end, becomes another one.
func TestCheckOfOneThatIsChanged(t *testing.T) {
	for _, l := range someTiers {
		for i := range l {
			for price, want := range map[int64]bool{
				least: false, -maxMoney: false, -2: false, -1: false, 0: true, 1: true, maxUnits + 1: true,
				maxMoney - 1: true, maxMoney: true, maxMoney + 1: false, 2 * maxMoney: false, 1 << 62: false, greatest: false,
			} {
				with := slices.Clone(l)
				with[i].Price = price
				checksAs(t, want, with)
			}
			var ahead, next int64 = 0, maxUnits + 1
			if i > 0 {
				ahead = l[i-1].Upto
			}
			if i+2 < len(l) {
				next = l[i+1].Upto
			}
			for _, upto := range []int64{least, -maxUnits, -2, -1, 0, 1, 2, ahead - 1, ahead, ahead + 1, next - 1, next, next + 1, maxUnits - 1, maxUnits, maxUnits + 1, maxMoney, 1 << 62, greatest} {
				with := slices.Clone(l)
				with[i].Upto = upto
				if i == len(l)-1 {
					checksAs(t, upto == 0, with)
					continue
				}
				checksAs(t, ahead < upto && upto < next, with)
			}
		}
	}
}

// All lists of up to five tiers of these Uptos.
func TestCheckOfAnyUptos(t *testing.T) {
	some := []int64{-1, 0, 1, 2, 3, maxUnits - 1, maxUnits, maxUnits + 1}
	found := 0
	var grow func(l []api.Tier)
	grow = func(l []api.Tier) {
		if mayBe(l) {
			found++
		}
		checksAs(t, mayBe(l), l)
		for _, upto := range some {
			if len(l) <= maxTiers {
				grow(append(slices.Clone(l), api.Tier{Upto: upto, Price: maxMoney}))
			}
		}
	}
	grow(nil)
	// Of the five that may be an end each choice of up to three, in their order.
	if found != 1+5+10+10 {
		t.Errorf("%d may be", found)
	}
}

func TestKnownSpans(t *testing.T) {
	spansAre(t, graded(), 12, 10, 2, 0)
	for _, x := range []struct{ n, first, second, third int64 }{
		{0, 0, 0, 0}, {1, 1, 0, 0}, {9, 9, 0, 0}, {10, 10, 0, 0}, {11, 10, 1, 0}, {12, 10, 2, 0}, {99, 10, 89, 0}, {100, 10, 90, 0}, {101, 10, 90, 1},
		{120, 10, 90, 20}, {1000, 10, 90, 900}, {maxUnits, 10, 90, maxUnits - 100}, {greatest - 1, 10, 90, greatest - 101}, {greatest, 10, 90, greatest - 100},
	} {
		spansAre(t, graded(), x.n, x.first, x.second, x.third)
	}
	for _, n := range someCounts {
		spansAre(t, of(0, 3), n, n)
	}
	ends := of(1, 1, 2, 2, maxUnits, 3, 0, 4)
	spansAre(t, ends, 0, 0, 0, 0, 0)
	spansAre(t, ends, 1, 1, 0, 0, 0)
	spansAre(t, ends, 2, 1, 1, 0, 0)
	spansAre(t, ends, 3, 1, 1, 1, 0)
	spansAre(t, ends, maxUnits-1, 1, 1, maxUnits-3, 0)
	spansAre(t, ends, maxUnits, 1, 1, maxUnits-2, 0)
	spansAre(t, ends, maxUnits+1, 1, 1, maxUnits-2, 1)
	spansAre(t, ends, greatest, 1, 1, maxUnits-2, greatest-maxUnits)
}

func TestSpansAreCountedOneByOne(t *testing.T) {
	for l := range small(7) {
		for n := int64(0); n <= 12; n++ {
			spansAre(t, l, n, counted(l, n)...)
		}
	}
}

// Each tier as it begins, as it is full, and behind that.
func TestSpansAboutTheEnds(t *testing.T) {
	r := rand.New(rand.NewSource(1))
	for i := range 3_000 {
		l := anyTiers(r)
		if i < len(someTiers) {
			l = someTiers[i]
		}
		full := make([]int64, len(l))
		var ahead int64
		for i, x := range l[:len(l)-1] {
			want := slices.Clone(full)
			spansAre(t, l, ahead, want...)
			want[i] = 1
			spansAre(t, l, ahead+1, want...)
			full[i] = x.Upto - ahead
			want[i] = full[i] - 1
			spansAre(t, l, x.Upto-1, want...)
			ahead = x.Upto
		}
		for _, more := range []int64{0, 1, 2, maxUnits, greatest - ahead - 1, greatest - ahead} {
			full[len(l)-1] = more
			spansAre(t, l, ahead+more, full...)
		}
	}
}

// Whoever changes what was answered, or what was handed in, changes no other answer.
func TestSpansAreNewMemory(t *testing.T) {
	l := graded()
	first, second := tiers.Spans(l, 120), tiers.Spans(l, 120)
	first[0], l[0].Upto = 7, 20
	if !slices.Equal(second, []int64{10, 90, 20}) {
		t.Errorf("the other answer became %d", second)
	}
	spansAre(t, l, 120, 20, 80, 20)
	spansAre(t, graded(), 120, 10, 90, 20)
}
