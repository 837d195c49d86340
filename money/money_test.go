package money_test

import (
	"testing"

	"quitrent/api"
	"quitrent/money"
)

// P10.1: Add, Mul.

func TestKnownSumsOfTwo(t *testing.T) {
	for _, x := range []struct {
		a, b, want int64
		e          api.Errno
	}{
		{0, 0, 0, api.OK}, {1, 0, 1, api.OK}, {1, 1, 2, api.OK}, {1, -1, 0, api.OK}, {-1, -1, -2, api.OK}, {-3, 5, 2, api.OK}, {3, -5, -2, api.OK},
		{1 << 62, 1<<62 - 1, greatest, api.OK}, {1 << 62, 1 << 62, 0, api.ErrOver}, {1<<62 + 1, 1<<62 + 1, 0, api.ErrOver},
		{-1 << 62, -1 << 62, least, api.OK}, {-1 << 62, -1<<62 - 1, 0, api.ErrOver},
		{greatest, 0, greatest, api.OK}, {greatest, 1, 0, api.ErrOver}, {greatest, 2, 0, api.ErrOver}, {greatest, -1, greatest - 1, api.OK},
		{greatest - 1, 1, greatest, api.OK}, {greatest - 1, 2, 0, api.ErrOver}, {greatest, greatest, 0, api.ErrOver},
		{least, 0, least, api.OK}, {least, -1, 0, api.ErrOver}, {least, -2, 0, api.ErrOver}, {least, 1, least + 1, api.OK},
		{least + 1, -1, least, api.OK}, {least + 1, -2, 0, api.ErrOver}, {least, least, 0, api.ErrOver},
		{greatest, least, -1, api.OK}, {greatest, least + 1, 0, api.OK}, {greatest - 1, least, -2, api.OK},
	} {
		if got, e := money.Add(x.a, x.b); got != x.want || e != x.e {
			t.Errorf("Add(%d, %d): %d, %v, not %d, %v", x.a, x.b, got, e, x.want, x.e)
		}
		if got, e := money.Add(x.b, x.a); got != x.want || e != x.e {
			t.Errorf("Add(%d, %d): %d, %v, not %d, %v", x.b, x.a, got, e, x.want, x.e)
		}
	}
}

func TestKnownProducts(t *testing.T) {
	for _, x := range []struct {
		a, b, want int64
		e          api.Errno
	}{
		{0, 0, 0, api.OK}, {0, 5, 0, api.OK}, {0, -5, 0, api.OK}, {1, 5, 5, api.OK}, {-1, 5, -5, api.OK}, {-3, 5, -15, api.OK}, {-3, -5, 15, api.OK}, {-1, -1, 1, api.OK},
		{least, 0, 0, api.OK}, {least, 1, least, api.OK}, {least, -1, 0, api.ErrOver}, {least, 2, 0, api.ErrOver}, {least, -2, 0, api.ErrOver},
		{least + 1, -1, greatest, api.OK}, {least + 1, 1, least + 1, api.OK}, {least + 1, 2, 0, api.ErrOver},
		{greatest, 0, 0, api.OK}, {greatest, 1, greatest, api.OK}, {greatest, -1, least + 1, api.OK}, {greatest, 2, 0, api.ErrOver}, {greatest, -2, 0, api.ErrOver},
		{least, least, 0, api.ErrOver}, {greatest, greatest, 0, api.ErrOver}, {least, greatest, 0, api.ErrOver}, {least + 1, greatest, 0, api.ErrOver},
		{1 << 32, 1 << 31, 0, api.ErrOver}, {1 << 32, -1 << 31, least, api.OK}, {-1 << 32, -1 << 31, 0, api.ErrOver}, {1<<32 - 1, 1 << 31, 1<<63 - 1<<31, api.OK},
		{1 << 32, 1 << 32, 0, api.ErrOver}, {1 << 32, -1 << 32, 0, api.ErrOver}, {1 << 62, 2, 0, api.ErrOver}, {1 << 62, -2, least, api.OK}, {1 << 62, 4, 0, api.ErrOver},
		{root, root, 9223372030926249001, api.OK}, {root + 1, root + 1, 0, api.ErrOver}, {root + 1, -root - 1, 0, api.ErrOver}, {-root, -root, 9223372030926249001, api.OK},
		{7 * 7 * 73 * 127, 337 * 92737 * 649657, greatest, api.OK}, {-7 * 7 * 73 * 127, 337 * 92737 * 649657, least + 1, api.OK},
	} {
		if got, e := money.Mul(x.a, x.b); got != x.want || e != x.e {
			t.Errorf("Mul(%d, %d): %d, %v, not %d, %v", x.a, x.b, got, e, x.want, x.e)
		}
		if got, e := money.Mul(x.b, x.a); got != x.want || e != x.e {
			t.Errorf("Mul(%d, %d): %d, %v, not %d, %v", x.b, x.a, got, e, x.want, x.e)
		}
	}
}

func TestPairsAsTheLibraryHasThem(t *testing.T) {
	for i, a := range someNumbers {
		for _, b := range someNumbers[i:] {
			addsUp(t, a, b)
			multiplies(t, a, b)
		}
	}
	for a := int64(-60); a <= 60; a++ {
		for b := int64(-60); b <= 60; b++ {
			if got, e := money.Add(a, b); got != a+b || e != api.OK {
				t.Fatalf("Add(%d, %d): %d, %v", a, b, got, e)
			}
			if got, e := money.Mul(a, b); got != a*b || e != api.OK {
				t.Fatalf("Mul(%d, %d): %d, %v", a, b, got, e)
			}
		}
	}
}

// Of each number the last one that can be added to it, on its own side, and the first one that can't.
func TestSumsAtTheBound(t *testing.T) {
	for _, a := range someNumbers {
		bound, step := int64(greatest), int64(1)
		if a < 0 {
			bound, step = least, -1
		}
		last := bound - a
		if got, e := money.Add(a, last); got != bound || e != api.OK {
			t.Errorf("Add(%d, %d): %d, %v, not %d", a, last, got, e, bound)
		}
		if a == 0 {
			continue
		}
		if got, e := money.Add(a, last+step); got != 0 || e != api.ErrOver {
			t.Errorf("Add(%d, %d): %d, %v, not 0, ErrOver", a, last+step, got, e)
		}
	}
}

// Of each number the last ones, on either side, by which it can be multiplied, and the first ones by which it can't.
func TestProductsAtTheBounds(t *testing.T) {
	for _, a := range someNumbers {
		if a >= -1 && a <= 1 {
			continue
		}
		step := int64(1)
		if a < 0 {
			step = -1
		}
		for _, x := range []struct{ last, beyond int64 }{{greatest / a, greatest/a + step}, {least / a, least/a - step}} {
			if got, e := money.Mul(a, x.last); got != a*x.last || e != api.OK {
				t.Errorf("Mul(%d, %d): %d, %v, not %d", a, x.last, got, e, a*x.last)
			}
			if got, e := money.Mul(a, x.beyond); got != 0 || e != api.ErrOver {
				t.Errorf("Mul(%d, %d): %d, %v, not 0, ErrOver", a, x.beyond, got, e)
			}
			multiplies(t, a, x.last)
			multiplies(t, a, x.beyond)
		}
	}
}

// FuzzPair takes any two numbers.
func FuzzPair(f *testing.F) {
	f.Add(int64(greatest), int64(1))
	f.Add(int64(least), int64(-1))
	f.Add(int64(1<<32), int64(1<<31))
	f.Fuzz(func(t *testing.T, a, b int64) {
		addsUp(t, a, b)
		multiplies(t, a, b)
		sumsUp(t, a, b)
	})
}
