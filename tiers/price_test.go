package tiers_test

import (
	"encoding/binary"
	"math/rand"
	"slices"
	"testing"

	"quitrent/api"
)

// P11.2: Price.

func TestKnownPrices(t *testing.T) {
	for _, x := range []struct{ n, price int64 }{
		{0, 0}, {1, 5}, {9, 45}, {10, 50}, {11, 53}, {12, 56}, {99, 317}, {100, 320}, {101, 321}, {1000, 1220},
		{maxUnits - 1, maxUnits + 219}, {maxUnits, maxUnits + 220}, {maxUnits + 1, maxUnits + 221}, {greatest - 220, greatest},
	} {
		costs(t, graded(), x.n, x.price, api.OK)
	}
	// 5 units over, of tiers up to 2: 7, then 3.
	costs(t, of(2, 7, 0, 3), 5, 23, api.OK)
	costs(t, of(2, 3, 0, 7), 5, 27, api.OK)
	costs(t, of(10, 1, 100, 10, 1000, 100, 0, 1000), 1234, 10+900+90_000+234_000, api.OK)
	costs(t, of(maxUnits, 3, 0, 1), maxUnits+5, 3*maxUnits+5, api.OK)
}

func TestPricesCountedOneByOne(t *testing.T) {
	for l := range small(7) {
		var want int64
		for n := int64(0); n <= 12; n++ {
			if n > 0 {
				want += l[tierOf(l, n)].Price
			}
			costs(t, l, n, want, api.OK)
		}
	}
}

func TestPricesByTheBook(t *testing.T) {
	for _, l := range someTiers {
		for _, n := range counts(l) {
			costsByTheBook(t, l, n)
		}
	}
	r := rand.New(rand.NewSource(2))
	for range 5_000 {
		l := anyTiers(r)
		for _, n := range counts(l) {
			costsByTheBook(t, l, n)
		}
		for range 10 {
			costsByTheBook(t, l, r.Int63()>>r.Intn(63))
		}
	}
}

// The last number of units whose price is within 64 bits, and the next one.
func TestPricesAtTheBound(t *testing.T) {
	for _, x := range []struct {
		name    string
		l       []api.Tier
		n, want int64
	}{
		{"1 each", of(0, 1), greatest, greatest},
		{"7 each", of(0, 7), greatest / 7, greatest},
		{"2 each", of(0, 2), greatest / 2, greatest - 1},
		{"the greatest price", of(0, maxMoney), 8191, 8191 * maxMoney},
		{"one less", of(0, maxMoney-1), 8192, 8192 * (maxMoney - 1)},
		{"the first one alone", of(10_000, maxMoney, 0, 1), 8191, 8191 * maxMoney},
		{"the second one alone", of(10_000, 0, 20_000, maxMoney, 0, 1), 18_191, 8191 * maxMoney},
		{"the last one alone", of(5, 0, 6, 0, 7, 0, 0, maxMoney), 8198, 8191 * maxMoney},
		{"halves", of(4096, maxMoney, 0, maxMoney), 8191, 8191 * maxMoney},
		{"quarters", of(2048, maxMoney, 4096, maxMoney, 6144, maxMoney, 0, maxMoney), 8191, 8191 * maxMoney},
		{"the last one to the last unit", of(8191, maxMoney, 0, 1), 8191 + maxMoney - 1, greatest},
		{"the third one to the last unit", of(8000, maxMoney, 8191, maxMoney, maxUnits, 1<<20, 0, 1), 8191 + 1<<30 - 1, greatest - 1<<20 + 1},
		{"what costs nothing between", of(8191, maxMoney, maxUnits, 0, 0, 1), maxUnits + maxMoney - 1, greatest},
		{"nothing, then 1", of(maxUnits, 2, 0, 1), greatest - maxUnits, greatest},
	} {
		t.Run(x.name, func(t *testing.T) {
			costs(t, x.l, x.n, x.want, api.OK)
			if x.n < greatest {
				costs(t, x.l, x.n+1, 0, api.ErrOver)
				costs(t, x.l, greatest, 0, api.ErrOver)
			}
			costsByTheBook(t, x.l, x.n-1)
			costsByTheBook(t, x.l, x.n)
		})
	}
}

// The bound of tiers of any prices, sought by halves.
func TestPricesAboutTheBound(t *testing.T) {
	r := rand.New(rand.NewSource(3))
	sought := 0
	for range 2_000 {
		l := anyTiers(r)
		if bookPrice(l, greatest).IsInt64() {
			costsByTheBook(t, l, greatest)
			continue
		}
		within, beyond := int64(0), int64(greatest)
		for beyond-within > 1 {
			n := within + (beyond-within)/2
			if bookPrice(l, n).IsInt64() {
				within = n
			} else {
				beyond = n
			}
		}
		costs(t, l, within, bookPrice(l, within).Int64(), api.OK)
		costs(t, l, beyond, 0, api.ErrOver)
		sought++
	}
	if sought < 1_000 {
		t.Errorf("only %d have a bound", sought)
	}
}

// Where bits are lost on the way, these come to 0, or above.
func TestPricesThatWouldGoRound(t *testing.T) {
	for _, x := range []struct {
		l []api.Tier
		n int64
	}{
		{of(0, maxMoney), 1 << 13}, {of(0, maxMoney), 1 << 14}, {of(0, maxMoney), 1<<14 + 1}, {of(0, maxMoney), maxUnits}, {of(0, maxMoney), 1 << 62}, {of(0, maxMoney), greatest},
		{of(0, 4), 1 << 62}, {of(0, 2), 1 << 62}, {of(0, 3), greatest}, {of(0, 1<<32), 1 << 32},
		{of(1<<14, maxMoney, 0, 1), 1<<14 + 5}, {of(5, 1, 5+1<<14, maxMoney, 0, 0), 6 + 1<<14}, {of(5, 1, 0, maxMoney), 5 + 1<<14},
		{of(4096, maxMoney, 8192, maxMoney, 12288, maxMoney, 0, maxMoney), 16384}, {of(8191, maxMoney, 16382, maxMoney, 0, maxMoney), 16384}, {of(8191, maxMoney, 16382, maxMoney, 16384, maxMoney, 0, 0), 20_000},
		{of(1, 1, 0, 1<<50), 1 + 1<<13}, {of(maxUnits, maxMoney, 0, maxMoney), greatest}, {of(8192, maxMoney, 0, 0), 8192}, {of(8192, maxMoney, 0, 0), greatest},
	} {
		costs(t, x.l, x.n, 0, api.ErrOver)
		costsByTheBook(t, x.l, x.n)
	}
}

// What may not be has no price, and, of P11.1, no spans.
func TestNoPricesNoSpans(t *testing.T) {
	for _, l := range noTiers {
		for _, n := range counts(l) {
			mayNot(t, l, n)
		}
		for _, n := range belowNought {
			mayNot(t, l, n)
		}
	}
	for _, l := range someTiers {
		for _, n := range belowNought {
			mayNot(t, l, n)
		}
	}
}

// FuzzTiers takes any tiers, of 16 bytes each, and any number of units.
func FuzzTiers(f *testing.F) {
	for i, l := range slices.Concat(someTiers, noTiers) {
		f.Add(written(l), someCounts[i%len(someCounts)])
	}
	f.Add(written(graded()), int64(-1))
	f.Fuzz(func(t *testing.T, b []byte, n int64) {
		l := read(b)
		checksAs(t, mayBe(l), l)
		if n < 0 || !mayBe(l) {
			mayNot(t, l, n)
			return
		}
		costsByTheBook(t, l, n)
		followsFrom(t, l, n)
	})
}

// written is the tiers' numbers as bytes.
func written(l []api.Tier) []byte {
	var b []byte
	for _, x := range l {
		b = binary.BigEndian.AppendUint64(b, uint64(x.Upto))
		b = binary.BigEndian.AppendUint64(b, uint64(x.Price))
	}
	return b
}

// read is the tiers of these bytes; what is left of them is none.
func read(b []byte) []api.Tier {
	var l []api.Tier
	for ; len(b) >= 16; b = b[16:] {
		l = append(l, api.Tier{Upto: int64(binary.BigEndian.Uint64(b)), Price: int64(binary.BigEndian.Uint64(b[8:]))})
	}
	return l
}
