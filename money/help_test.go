package money_test

import (
	"math"
	"math/big"
	"slices"
	"testing"

	"quitrent/api"
	"quitrent/money"
)

const (
	least    = math.MinInt64
	greatest = math.MaxInt64

	// root is the greatest number whose square has 64 bits.
	root = 3037000499
)

// someNumbers are of either sign: 0, the powers of two and of ten and the numbers beside them, the least and the greatest and those beside them, and those about their roots.
var someNumbers = numbers()

// fewNumbers are those of someNumbers that lie about the bounds of 32, 62 and 63 bits, and about 0.
var fewNumbers = []int64{
	0, 1, 2, 3, 7, 10, 1<<31 - 1, 1 << 31, 1<<31 + 1, root - 1, root, root + 1, 1<<32 - 1, 1 << 32, 1<<32 + 1, 999_999_999_999,
	1<<61 - 1, 1 << 61, 1<<61 + 1, greatest / 3, greatest/3 + 1, 1<<62 - 1, 1 << 62, 1<<62 + 1, greatest - 2, greatest - 1, greatest,
	-1, -2, -3, -10, -1 << 31, -1<<31 - 1, -root, -root - 1, -1<<32 + 1, -1 << 32, -1<<32 - 1,
	-1 << 61, -1<<62 + 1, -1 << 62, -1<<62 - 1, least + 2, least + 1, least,
}

func numbers() []int64 {
	l := slices.Clone(fewNumbers)
	for bit := range 63 {
		n := int64(1) << bit
		l = append(l, n-1, n, n+1, -n-1, -n, -n+1)
	}
	for n := int64(1); n <= greatest/10; n *= 10 {
		l = append(l, 10*n-1, 10*n, 10*n+1, -10*n-1, -10*n, -10*n+1)
	}
	slices.Sort(l)
	return slices.Compact(l)
}

// notBelow are those of the list that are 0 or above.
func notBelow(l []int64) []int64 {
	return slices.DeleteFunc(slices.Clone(l), func(n int64) bool { return n < 0 })
}

// The library's numbers, of any greatness.

func book(n int64) *big.Int { return big.NewInt(n) }

func bookSum(l ...int64) *big.Int {
	all := new(big.Int)
	for _, n := range l {
		all.Add(all, book(n))
	}
	return all
}

func bookProduct(a, b int64) *big.Int { return new(big.Int).Mul(book(a), book(b)) }

// holds fails where what was answered is not the number, or, if it is none of 64 bits, not 0 and ErrOver.
func holds(t testing.TB, call string, args []int64, got int64, e api.Errno, want *big.Int) {
	t.Helper()
	if want.IsInt64() {
		if got != want.Int64() || e != api.OK {
			t.Fatalf("%s(%d): %d, %v, not %v", call, args, got, e, want)
		}
		return
	}
	if got != 0 || e != api.ErrOver {
		t.Fatalf("%s(%d): %d, %v, not 0, ErrOver, as it is %v", call, args, got, e, want)
	}
}

// eitherWay fails where the call of both, one way round or the other, does not answer that number.
func eitherWay(t testing.TB, name string, call func(a, b int64) (int64, api.Errno), a, b int64, want *big.Int) {
	t.Helper()
	got, e := call(a, b)
	holds(t, name, []int64{a, b}, got, e, want)
	got, e = call(b, a)
	holds(t, name, []int64{b, a}, got, e, want)
}

// addsUp fails where Add of both is not their sum.
func addsUp(t testing.TB, a, b int64) {
	t.Helper()
	eitherWay(t, "Add", money.Add, a, b, bookSum(a, b))
}

// multiplies fails where Mul of both is not their product.
func multiplies(t testing.TB, a, b int64) {
	t.Helper()
	eitherWay(t, "Mul", money.Mul, a, b, bookProduct(a, b))
}

// sumsUp fails where Sum of the list, as it is or backwards, is not what all come to, or where the list is changed.
func sumsUp(t testing.TB, l ...int64) {
	t.Helper()
	want, l := bookSum(l...), slices.Clone(l)
	for range 2 {
		was := slices.Clone(l)
		got, e := money.Sum(l...)
		holds(t, "Sum", was, got, e, want)
		if !slices.Equal(l, was) {
			t.Fatalf("Sum(%d) made it %d", was, l)
		}
		slices.Reverse(l)
	}
}

// isNone fails where Part of these answers other things than ErrArg and zeros.
func isNone(t testing.TB, a, b, d int64) {
	t.Helper()
	if part, rest, e := money.Part(a, b, d); part != 0 || rest != 0 || e != api.ErrArg {
		t.Errorf("Part(%d, %d, %d): %d, %d, %v, not 0, 0, ErrArg", a, b, d, part, rest, e)
	}
}

// isPart fails where Part of these, either way round, answers other things.
func isPart(t testing.TB, a, b, d, part, rest int64, e api.Errno) {
	t.Helper()
	for _, x := range [][2]int64{{a, b}, {b, a}} {
		p, r, f := money.Part(x[0], x[1], d)
		if p != part || r != rest || f != e {
			t.Fatalf("Part(%d, %d, %d): %d, %d, %v, not %d, %d, %v", x[0], x[1], d, p, r, f, part, rest, e)
		}
	}
}

// parts fails where Part of these is other than by the library's numbers, whatever numbers they are.
func parts(t testing.TB, a, b, d int64) {
	t.Helper()
	if a < 0 || b < 0 || d < 1 {
		isNone(t, a, b, d)
		return
	}
	part, rest := new(big.Int).QuoRem(bookProduct(a, b), book(d), new(big.Int))
	if part.IsInt64() {
		isPart(t, a, b, d, part.Int64(), rest.Int64(), api.OK)
		return
	}
	isPart(t, a, b, d, 0, 0, api.ErrOver)
}
