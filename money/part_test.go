package money_test

import (
	"math/rand"
	"testing"

	"quitrent/api"
)

// P10.3: Part.

func TestKnownParts(t *testing.T) {
	isPart(t, 7, 3, 2, 10, 1, api.OK)
	isPart(t, 1<<62, 1<<62, 1<<62, 1<<62, 0, api.OK)
	isPart(t, 1<<62, 4, 1, 0, 0, api.ErrOver)
	isPart(t, 1<<62, 6, 1<<60, 24, 0, api.OK)
	isPart(t, 0, 0, 1, 0, 0, api.OK)
	isPart(t, 0, greatest, greatest, 0, 0, api.OK)
	isPart(t, 1, 1, 2, 0, 1, api.OK)
	isPart(t, 1, 1, greatest, 0, 1, api.OK)
	isPart(t, 100, 31, 30, 103, 10, api.OK)
	isPart(t, greatest, 1, 1, greatest, 0, api.OK)
	isPart(t, greatest, 2, 1, 0, 0, api.ErrOver)
	isPart(t, greatest, 2, 2, greatest, 0, api.OK)
	isPart(t, greatest, 3, 2, 0, 0, api.ErrOver)
	isPart(t, greatest, 2, 3, 6148914691236517204, 2, api.OK)
	isPart(t, greatest, greatest, greatest, greatest, 0, api.OK)
	isPart(t, greatest, greatest, greatest-1, 0, 0, api.ErrOver)
	isPart(t, greatest, greatest-1, greatest, greatest-1, 0, api.OK)
	isPart(t, greatest-1, greatest-1, greatest, greatest-2, 1, api.OK)
	isPart(t, greatest, greatest, 1, 0, 0, api.ErrOver)
	isPart(t, greatest, greatest, 2, 0, 0, api.ErrOver)
}

func TestWrongParts(t *testing.T) {
	below := []int64{-1, -2, -1 << 32, least + 1, least}
	for _, n := range below {
		for _, a := range someNumbers {
			isNone(t, n, 1, max(a, 1))
			isNone(t, 1, n, max(a, 1))
			isNone(t, n, a, 7)
			isNone(t, a, n, 7)
			isNone(t, a, 1, n)
			isNone(t, a, a, n)
			isNone(t, a, greatest, 0)
			isNone(t, a, 0, 0)
			isNone(t, a, n, 0)
			isNone(t, n, n, a)
		}
	}
	// Errors in their order: what would go too far as well is ErrArg.
	isNone(t, greatest, greatest, 0)
	isNone(t, greatest, greatest, -1)
	isNone(t, greatest, greatest, least)
	isNone(t, least, greatest, 1)
	isNone(t, greatest, least, 1)
	isNone(t, least, least, 1)
	isNone(t, -1, -1, 1)
	isNone(t, 0, 0, 0)
	isNone(t, 0, 0, -1)
}

// By 1 the part is the product.
func TestPartsByOne(t *testing.T) {
	for _, a := range notBelow(someNumbers) {
		isPart(t, a, 0, 1, 0, 0, api.OK)
		isPart(t, a, 1, 1, a, 0, api.OK)
		if a == 0 {
			continue
		}
		isPart(t, a, greatest/a, 1, a*(greatest/a), 0, api.OK)
		if a > 1 {
			isPart(t, a, greatest/a+1, 1, 0, 0, api.ErrOver)
		}
	}
}

// The part is b where a is d; so products of up to 126 bits have one within 64.
func TestPartsOfWideProducts(t *testing.T) {
	for _, d := range notBelow(someNumbers) {
		if d == 0 {
			continue
		}
		for _, b := range notBelow(someNumbers) {
			isPart(t, d, b, d, b, 0, api.OK)
		}
		if d < greatest {
			// d*d - 1: the rest is as great as it may be.
			isPart(t, d-1, d+1, d, d-1, d-1, api.OK)
		}
		if d > 1 {
			// d*d - 2*d + 1
			isPart(t, d-1, d-1, d, d-2, 1, api.OK)
			isPart(t, d-1, 1, d, 0, d-1, api.OK)
		}
		// Those just beyond the greatest part.
		isPart(t, greatest, d, d, greatest, 0, api.OK)
		if d < greatest {
			isPart(t, greatest, d+1, d, 0, 0, api.ErrOver)
		}
	}
}

// Products of 2^63 times d, less 1, and of that: the last one within, whose rest is the greatest, and the first one beyond.
func TestPartsAtTheBound(t *testing.T) {
	for bits := range 31 {
		side, d := int64(1)<<(32+bits), int64(1)<<(2*bits+1)
		isPart(t, side-1, side+1, d, greatest, d-1, api.OK)
		isPart(t, side, side, d, 0, 0, api.ErrOver)
		parts(t, side, side-1, d)
		parts(t, side-1, side-1, d)
		parts(t, side+1, side, d)
	}
	// Parts of 2^63, of 2^64 less 1, of 2^64 and of more, by a small d and by a great one.
	for _, d := range []int64{1, 2, 3, 1 << 31, 1 << 32, 1 << 60, 1<<60 + 1} {
		isPart(t, 1<<62, 2*d, d, 0, 0, api.ErrOver)
		isPart(t, 1<<62, 4*d, d, 0, 0, api.ErrOver)
		isPart(t, 1<<62, 4*d-1, d, 0, 0, api.ErrOver)
		isPart(t, 1<<62, 4*d+1, d, 0, 0, api.ErrOver)
		isPart(t, 1<<62, 7*d, d, 0, 0, api.ErrOver)
	}
	isPart(t, 1<<32-1, 1<<32+1, 1, 0, 0, api.ErrOver)
}

func TestPartsAsTheLibraryHasThem(t *testing.T) {
	for _, a := range fewNumbers {
		for _, b := range fewNumbers {
			for _, d := range fewNumbers {
				parts(t, a, b, d)
			}
		}
	}
	for a := range int64(24) {
		for b := range int64(24) {
			for d := int64(1); d < 30; d++ {
				isPart(t, a, b, d, a*b/d, a*b%d, api.OK)
			}
		}
	}
	r := rand.New(rand.NewSource(2))
	for range 200_000 {
		parts(t, r.Int63()>>r.Intn(63), r.Int63()>>r.Intn(63), r.Int63()>>r.Intn(63))
	}
}

// FuzzPart takes any three numbers.
func FuzzPart(f *testing.F) {
	f.Add(int64(7), int64(3), int64(2))
	f.Add(int64(1<<62), int64(4), int64(1))
	f.Add(int64(1<<32-1), int64(1<<32+1), int64(2))
	f.Add(int64(-1), int64(least), int64(0))
	f.Fuzz(func(t *testing.T, a, b, d int64) {
		parts(t, a, b, d)
		comesTo(t, a, b, d)
	})
}
