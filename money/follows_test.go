package money_test

import (
	"math/big"
	"math/rand"
	"slices"
	"testing"

	"quitrent/api"
	"quitrent/money"
)

// P10.4: what follows.

// comesTo fails where the part, times d, and the rest, is not a times b.
func comesTo(t testing.TB, a, b, d int64) {
	t.Helper()
	part, rest, e := money.Part(a, b, d)
	if e != api.OK {
		return
	}
	if part < 0 || rest < 0 || rest >= d {
		t.Fatalf("Part(%d, %d, %d): %d, %d", a, b, d, part, rest)
	}
	all := new(big.Int).Add(bookProduct(part, d), book(rest))
	if all.Cmp(bookProduct(a, b)) != 0 {
		t.Fatalf("Part(%d, %d, %d): %d, %d, which come to %v", a, b, d, part, rest, all)
	}
}

func TestPartsComeToTheWhole(t *testing.T) {
	for _, a := range notBelow(fewNumbers) {
		for _, b := range notBelow(fewNumbers) {
			for _, d := range notBelow(someNumbers) {
				comesTo(t, a, b, d)
			}
		}
	}
}

// By the calls themselves, where all is within 64 bits.
func TestPartsComeBack(t *testing.T) {
	for a := range int64(40) {
		for b := range int64(40) {
			for d := int64(1); d < 50; d++ {
				part, rest, e := money.Part(a, b, d)
				whole, f := money.Mul(part, d)
				whole, g := money.Add(whole, rest)
				want, h := money.Mul(a, b)
				if whole != want || e != api.OK || f != api.OK || g != api.OK || h != api.OK {
					t.Fatalf("Part(%d, %d, %d): %d, %d, which come to %d", a, b, d, part, rest, whole)
				}
			}
		}
	}
}

func TestSumsHangOnNoOrder(t *testing.T) {
	r := rand.New(rand.NewSource(3))
	for range 2_000 {
		l := make([]int64, r.Intn(30))
		for i := range l {
			l[i] = someNumbers[r.Intn(len(someNumbers))]
		}
		want, e := money.Sum(l...)
		for range 10 {
			r.Shuffle(len(l), func(i, j int) { l[i], l[j] = l[j], l[i] })
			if got, f := money.Sum(l...); got != want || f != e {
				t.Fatalf("Sum(%d): %d, %v, in another order %d, %v", l, got, f, want, e)
			}
		}
		slices.Sort(l)
		if got, f := money.Sum(l...); got != want || f != e {
			t.Fatalf("Sum(%d): %d, %v, in another order %d, %v", l, got, f, want, e)
		}
	}
}

// A list's sum is that of its pieces' sums, where these have 64 bits.
func TestSumsOfSums(t *testing.T) {
	r := rand.New(rand.NewSource(4))
	for range 2_000 {
		l := make([]int64, r.Intn(20))
		for i := range l {
			l[i] = int64(r.Uint64()) >> (4 + r.Intn(60))
		}
		at := r.Intn(len(l) + 1)
		ahead, e := money.Sum(l[:at]...)
		behind, f := money.Sum(l[at:]...)
		if e != api.OK || f != api.OK {
			continue
		}
		both, e := money.Add(ahead, behind)
		if all, f := money.Sum(l...); all != both || e != f {
			t.Fatalf("Sum(%d): %d, %v, of two pieces %d, %v", l, all, f, both, e)
		}
	}
}
