package share_test

import (
	"encoding/binary"
	"math/rand"
	"slices"
	"testing"

	"quitrent/api"
	"quitrent/share"
)

// P12.1: Split.

func TestKnownShares(t *testing.T) {
	for _, x := range []struct {
		total         int64
		weights, want []int64
	}{
		{10, list(1, 1, 1), list(4, 3, 3)}, {5, list(0, 3, 1), list(0, 4, 1)},
		{0, list(1), list(0)}, {0, list(1, 2, 3), list(0, 0, 0)}, {0, list(0, greatest), list(0, 0)}, {0, like(maxList, 1), like(maxList, 0)},
		{1, list(1), list(1)}, {1, list(1, 1), list(1, 0)}, {1, list(1, 2), list(0, 1)}, {1, list(2, 1), list(1, 0)}, {1, list(0, 1), list(0, 1)}, {1, list(0, 1, 1), list(0, 1, 0)},
		{greatest, list(1), list(greatest)}, {greatest, list(greatest), list(greatest)}, {greatest, list(1, 1), list(1<<62, 1<<62-1)}, {greatest, list(0, 1), list(0, greatest)}, {greatest, list(1, 0), list(greatest, 0)},
		{greatest, list(1, 2), list(greatest/3, greatest/3*2+1)}, {greatest, list(1, 1, 1, 1), list(1<<61, 1<<61, 1<<61, 1<<61-1)},
		{greatest, list(greatest-1, 1), list(greatest-1, 1)}, {greatest, list(1, greatest-1), list(1, greatest-1)}, {greatest, list(1<<62, 1<<62-1), list(1<<62, 1<<62-1)}, {greatest - 1, list(greatest-1, 1), list(greatest-2, 1)},
		{100, list(10, 21), list(32, 68)}, {101, list(1, 1), list(51, 50)}, {7, list(1, 2, 3), list(1, 2, 4)}, {4, list(1, 2, 3), list(1, 1, 2)}, {8, list(3, 2, 1), list(4, 3, 1)},
	} {
		splits(t, x.total, x.weights, x.want, api.OK)
	}
}

// Of one weight alone, whatever it is, the share is the total; so it is if the others are 0.
func TestSharesOfOneAlone(t *testing.T) {
	for _, total := range someTotals {
		for _, w := range list(1, 2, 3, 1<<31, maxMoney, 1<<62, greatest-1, greatest) {
			splits(t, total, list(w), list(total), api.OK)
			splits(t, total, list(0, w), list(0, total), api.OK)
			splits(t, total, list(w, 0), list(total, 0), api.OK)
			for _, at := range []int{0, 1, 57, 98, 99} {
				splits(t, total, with(like(maxList, 0), at, w), with(like(maxList, 0), at, total), api.OK)
			}
		}
	}
}

// The units that are left go to the greatest rests.
func TestUnitsLeftOfUnlikeRests(t *testing.T) {
	for _, x := range []struct {
		name          string
		total         int64
		weights, want []int64
	}{
		{"one, the last one's", 1, list(1, 2, 3), list(0, 0, 1)},
		{"two, the last ones'", 2, list(1, 2, 3), list(0, 1, 1)},
		{"one, that between", 1, list(2, 5, 3), list(0, 1, 0)},
		{"one, the first one's", 1, list(5, 2, 3), list(1, 0, 0)},
		{"rests 6 5 4 of 15, one", 1, list(6, 5, 4), list(1, 0, 0)},
		{"rests 4 5 6 of 15, one", 1, list(4, 5, 6), list(0, 0, 1)},
		{"rests 12 10 8 of 15, two", 2, list(6, 5, 4), list(1, 1, 0)},
		{"rests 8 10 12 of 15, two", 2, list(4, 5, 6), list(0, 1, 1)},
		{"the lesser share has the greater rest", 3, list(10, 3), list(2, 1)},
		{"the greater share has the greater rest", 3, list(10, 1), list(3, 0)},
		{"rests 3 6 9 2 of 10, two", 13, list(1, 2, 3, 4), list(1, 3, 4, 5)},
		{"rests 2 9 6 3 of 10, two", 13, list(4, 3, 2, 1), list(5, 4, 3, 1)},
		{"rests that are unlike by 1 in 2^63 - 1", 1, list(1<<62-1, 1<<62), list(0, 1)},
		{"rests that are unlike by 1, the first one's", 1, list(1<<62, 1<<62-1), list(1, 0)},
	} {
		t.Run(x.name, func(t *testing.T) { splits(t, x.total, x.weights, x.want, api.OK) })
	}
}

// Of like rests the first ones have them.
func TestUnitsLeftOfLikeRests(t *testing.T) {
	for _, count := range []int{1, 2, 3, 7, 12, 13, 40, 99, maxList} {
		for _, w := range list(1, 2, 1000, greatest/maxList) {
			for _, each := range list(0, 1, 5, greatest/maxList-1) {
				for left := range count {
					want := like(count, each)
					for i := range left {
						want[i]++
					}
					splits(t, each*int64(count)+int64(left), like(count, w), want, api.OK)
				}
			}
		}
	}
	for _, x := range []struct {
		name          string
		total         int64
		weights, want []int64
	}{
		{"not of 0", 2, list(0, 1, 0, 1, 1), list(0, 1, 0, 1, 0)},
		{"two and two, the first of either", 2, list(1, 3, 1, 3), list(0, 1, 0, 1)},
		{"two and two, one of the greater", 1, list(1, 3, 1, 3), list(0, 1, 0, 0)},
		{"two and two, all of the greater and the first of the others", 3, list(2, 3, 2, 3), list(1, 1, 0, 1)},
		{"like rests of unlike weights", 1, list(5, 5, 0), list(1, 0, 0)},
		{"like rests of unlike weights, the greater first", 2, list(3, 1), list(2, 0)},
		{"like rests of unlike weights, the lesser first", 2, list(1, 3), list(1, 1)},
		{"like rests of unlike weights behind a greater one", 4, list(1, 1, 2, 4, 4), list(1, 0, 1, 1, 1)},
		{"like rests of unlike weights behind a greater one, the other way", 4, list(4, 4, 2, 1, 1), list(2, 1, 1, 0, 0)},
	} {
		t.Run(x.name, func(t *testing.T) { splits(t, x.total, x.weights, x.want, api.OK) })
	}
}

// So many that a sorting that does not keep like ones in order would show: rests 1 and 2 in turn, of each kind some left.
func TestUnitsLeftOfManyRests(t *testing.T) {
	for _, count := range []int{13, 20, 33, 50, 64, 99, maxList} {
		weights := make([]int64, count)
		for i := range weights {
			weights[i] = 1 + int64(i%2)
		}
		for total := range int64(2 * count) {
			splitsByTheBook(t, total, weights)
		}
		total := int64(count/2 + count/4)
		want := make([]int64, count)
		left := total
		for turn := 1; turn >= 0; turn-- {
			for i := turn; i < count && left > 0; i += 2 {
				want[i] = 1
				left--
			}
		}
		splits(t, total, weights, want, api.OK)
	}
}

func TestNoShares(t *testing.T) {
	splits(t, 1, list(0, 0), nil, api.ErrArg)
	for _, weights := range noWeights {
		for _, total := range slices.Concat(someTotals, belowNought) {
			splits(t, total, weights, nil, api.ErrArg)
		}
	}
	for _, weights := range someWeights {
		for _, total := range belowNought {
			splits(t, total, weights, nil, api.ErrArg)
		}
	}
}

// One number at a time, in each place.
func TestNoSharesOfOneWrongWeight(t *testing.T) {
	for _, weights := range someWeights {
		for at := range weights {
			for _, w := range belowNought {
				splits(t, 10, with(weights, at, w), nil, api.ErrArg)
			}
		}
	}
}

func TestSharesOfUpToAHundred(t *testing.T) {
	for count := range maxList + 5 {
		weights := like(count, 1)
		switch {
		case count == 0 || count > maxList:
			splits(t, 5, weights, nil, api.ErrArg)
		default:
			splits(t, 5*int64(count), weights, like(count, 5), api.OK)
		}
	}
}

// Weights that are together just a number of 64 bits, and just none; a fault of another kind comes first.
func TestWeightsTogetherBeyond64Bits(t *testing.T) {
	for _, weights := range overWeights {
		for _, total := range someTotals {
			splits(t, total, weights, nil, api.ErrOver)
		}
		for _, total := range belowNought {
			splits(t, total, weights, nil, api.ErrArg)
		}
		for at := range weights {
			for _, w := range belowNought {
				splits(t, 1, with(weights, at, w), nil, api.ErrArg)
			}
		}
		for _, w := range belowNought {
			if len(weights) < maxList {
				splits(t, 1, append(slices.Clone(weights), w), nil, api.ErrArg)
			}
		}
		splits(t, 1, slices.Concat(weights, like(101-len(weights), 0)), nil, api.ErrArg)
	}
	for _, ahead := range list(0, 1, 2, 1<<31, 1<<62-1, 1<<62, greatest-1, greatest) {
		splits(t, greatest, list(ahead, greatest-ahead), list(ahead, greatest-ahead), api.OK)
		splits(t, greatest, list(ahead, greatest-ahead, 0), list(ahead, greatest-ahead, 0), api.OK)
		splits(t, greatest, list(ahead, greatest-ahead, 1), nil, api.ErrOver)
		splits(t, greatest, list(1, ahead, greatest-ahead), nil, api.ErrOver)
	}
	for at := range maxList {
		full := with(like(maxList, 1), at, greatest-99)
		splits(t, greatest, full, full, api.OK)
		full[at]++
		splits(t, greatest, full, nil, api.ErrOver)
	}
}

// Products beyond 64 bits, whose shares are within.
func TestSharesOfGreatProducts(t *testing.T) {
	splits(t, 1<<62, list(1<<40, 3<<40), list(1<<60, 3<<60), api.OK)
	splits(t, 1<<62, list(1<<60, 1<<61), list(1<<62/3, 1<<62/3*2+1), api.OK)
	splits(t, greatest-1, list(1<<61, 1<<61), list(1<<62-1, 1<<62-1), api.OK)
	splits(t, 1<<62, list(1<<31, 0, 1<<31), list(1<<61, 0, 1<<61), api.OK)
	splits(t, 3<<31, list(1<<61, 1<<60), list(1<<32, 1<<31), api.OK)
	// Each weight of a total that is all weights together is its own share.
	for _, weights := range someWeights {
		splits(t, bookSum(weights).Int64(), weights, weights, api.OK)
	}
}

func TestSharesByTheBook(t *testing.T) {
	for count := 0; count <= 5; count++ {
		for weights := range small(count, 4) {
			for total := int64(-1); total <= 8; total++ {
				splitsByTheBook(t, total, weights)
			}
		}
	}
	for _, l := range [][][]int64{someWeights, overWeights, noWeights} {
		for _, weights := range l {
			for _, total := range slices.Concat(someTotals, belowNought) {
				splitsByTheBook(t, total, weights)
			}
		}
	}
	r := rand.New(rand.NewSource(1))
	for range 20_000 {
		splitsByTheBook(t, r.Int63()>>r.Intn(63), anyWeights(r))
	}
}

// Whoever changes what was answered, or what was handed in, changes no other answer.
func TestSharesAreNewMemory(t *testing.T) {
	weights := list(1, 1, 1)
	first, _ := share.Split(10, weights)
	second, _ := share.Split(10, weights)
	first[0], weights[1] = 70, 50
	if !slices.Equal(second, list(4, 3, 3)) || !slices.Equal(first, list(70, 3, 3)) || !slices.Equal(weights, list(1, 50, 1)) {
		t.Errorf("the answers became %d and %d, the weights %d", first, second, weights)
	}
	splits(t, 52, weights, list(1, 50, 1), api.OK)
	splits(t, 10, list(1, 1, 1), list(4, 3, 3), api.OK)
}

func FuzzSplit(f *testing.F) {
	f.Add(int64(10), []byte{1, 1, 1}, byte(0))
	f.Add(int64(5), []byte{0, 3, 1}, byte(0))
	f.Add(int64(greatest), numbersAsBytes(1<<62, 1<<62-1), byte(1))
	f.Add(int64(1), numbersAsBytes(greatest, 1), byte(1))
	f.Fuzz(func(t *testing.T, total int64, b []byte, wide byte) {
		weights := numbersOf(b, wide%2 == 1)
		splitsByTheBook(t, total, weights)
		splitsAsItHasTo(t, total, weights)
	})
}

// numbersOf are the bytes' numbers: of one byte each, or, if they are wide, of eight.
func numbersOf(b []byte, wide bool) []int64 {
	var l []int64
	if wide {
		for ; len(b) >= 8; b = b[8:] {
			l = append(l, int64(binary.BigEndian.Uint64(b)))
		}
		return l
	}
	for _, n := range b {
		l = append(l, int64(int8(n)))
	}
	return l
}

func numbersAsBytes(numbers ...int64) []byte {
	var b []byte
	for _, n := range numbers {
		b = binary.BigEndian.AppendUint64(b, uint64(n))
	}
	return b
}
