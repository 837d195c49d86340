package money_test

import (
	"encoding/binary"
	"math/rand"
	"slices"
	"testing"

	"quitrent/api"
	"quitrent/money"
)

// P10.2: Sum.

// many are so often that number.
func many(n int64, times int) []int64 { return slices.Repeat([]int64{n}, times) }

func TestKnownSums(t *testing.T) {
	for _, x := range []struct {
		l    []int64
		want int64
		e    api.Errno
	}{
		{nil, 0, api.OK}, {[]int64{}, 0, api.OK}, {[]int64{0}, 0, api.OK}, {[]int64{7}, 7, api.OK}, {[]int64{-7}, -7, api.OK},
		{[]int64{least}, least, api.OK}, {[]int64{greatest}, greatest, api.OK}, {[]int64{1, 2, 3, 4, 5}, 15, api.OK}, {[]int64{-1, 2, -3, 4, -5}, -3, api.OK},
		{[]int64{greatest, 1, -1}, greatest, api.OK}, {[]int64{least, -1, 1}, least, api.OK}, {[]int64{greatest, 1, -2}, greatest - 1, api.OK},
		{[]int64{greatest, 1}, 0, api.ErrOver}, {[]int64{greatest, 1, 0}, 0, api.ErrOver}, {[]int64{greatest, 2, -1}, 0, api.ErrOver},
		{[]int64{least, -1}, 0, api.ErrOver}, {[]int64{least, -1, 0}, 0, api.ErrOver}, {[]int64{least, -2, 1}, 0, api.ErrOver},
		{[]int64{greatest, greatest, least, least}, -2, api.OK}, {[]int64{least, least, greatest, greatest}, -2, api.OK},
		{[]int64{least, least, greatest, greatest, 2}, 0, api.OK}, {[]int64{greatest, greatest, least}, greatest - 1, api.OK}, {[]int64{least, least, greatest}, 0, api.ErrOver},
		// Lists that come to 0, or to other numbers of 64 bits, where bits are lost on the way.
		{[]int64{least, least}, 0, api.ErrOver}, {many(least, 4), 0, api.ErrOver}, {append(many(least, 2), 5), 0, api.ErrOver}, {append(many(least, 2), -5), 0, api.ErrOver},
		{many(1<<62, 4), 0, api.ErrOver}, {append(many(1<<62, 4), 5), 0, api.ErrOver}, {append(many(1<<62, 4), -5), 0, api.ErrOver}, {many(-1<<62, 4), 0, api.ErrOver},
		{[]int64{greatest, greatest, 2}, 0, api.ErrOver}, {[]int64{greatest, greatest, 3}, 0, api.ErrOver}, {[]int64{greatest, greatest, greatest}, 0, api.ErrOver},
	} {
		if got, e := money.Sum(x.l...); got != x.want || e != x.e {
			t.Errorf("Sum(%d): %d, %v, not %d, %v", x.l, got, e, x.want, x.e)
		}
	}
	if got, e := money.Sum(); got != 0 || e != api.OK {
		t.Errorf("Sum(): %d, %v", got, e)
	}
}

func TestSumOfOne(t *testing.T) {
	for _, n := range someNumbers {
		if got, e := money.Sum(n); got != n || e != api.OK {
			t.Errorf("Sum(%d): %d, %v", n, got, e)
		}
	}
}

func TestSumsAsTheLibraryHasThem(t *testing.T) {
	for i, a := range fewNumbers {
		for j, b := range fewNumbers[i:] {
			for _, c := range fewNumbers[i+j:] {
				sumsUp(t, a, b, c)
			}
		}
	}
	r := rand.New(rand.NewSource(1))
	for range 20_000 {
		l := make([]int64, r.Intn(12))
		for i := range l {
			l[i] = someNumbers[r.Intn(len(someNumbers))]
		}
		sumsUp(t, l...)
	}
	for range 20_000 {
		l := make([]int64, r.Intn(40))
		for i := range l {
			l[i] = int64(r.Uint64()) >> r.Intn(64)
		}
		sumsUp(t, l...)
	}
}

// Long lists on the way to a bound, from either side, and one beyond it.
func TestLongSumsAtTheBounds(t *testing.T) {
	for _, bits := range []int{0, 1, 2, 10, 17} {
		times := 1 << bits
		above, below := int64(1)<<(63-bits)-1, int64(-1)<<(63-bits)
		within := append(many(above, times), int64(times)-1) // together the greatest
		sumsUp(t, within...)
		sumsUp(t, append(within, 1)...)
		sumsUp(t, append(within, 1, -1)...)
		within = many(below, times) // together the least
		sumsUp(t, within...)
		sumsUp(t, append(within, -1)...)
		sumsUp(t, append(within, -1, 1)...)
	}
	if got, e := money.Sum(append(many(1<<46-1, 1<<17), 1<<17-1)...); got != greatest || e != api.OK {
		t.Errorf("the greatest, of many: %d, %v", got, e)
	}
	if got, e := money.Sum(many(-1<<46, 1<<17)...); got != least || e != api.OK {
		t.Errorf("the least, of many: %d, %v", got, e)
	}
}

// So many of the least and of the greatest come back by as many of the other ones, and no sooner.
func TestManyOfTheGreatest(t *testing.T) {
	for _, times := range []int{2, 3, 4, 5, 8, 16, 255, 256, 1000, 1 << 16, 1 << 20} {
		for _, x := range [][2]int64{{greatest, least}, {least, greatest}} {
			far, back := many(x[0], times), many(x[1], times)
			if got, e := money.Sum(far...); got != 0 || e != api.ErrOver {
				t.Fatalf("%d of %d: %d, %v, not 0, ErrOver", times, x[0], got, e)
			}
			all := append(far, back...)
			if got, e := money.Sum(all...); got != -int64(times) || e != api.OK {
				t.Fatalf("%d of %d and of %d: %d, %v, not %d", times, x[0], x[1], got, e, -times)
			}
			got, e := money.Sum(all[:len(all)-2]...)
			holds(t, "Sum of all but two", nil, got, e, bookSum(all[:len(all)-2]...))
		}
	}
}

// eachOrder hands each order of the list out.
func eachOrder(l []int64, from int, visit func([]int64)) {
	if from == len(l) {
		visit(l)
		return
	}
	for i := from; i < len(l); i++ {
		l[from], l[i] = l[i], l[from]
		eachOrder(l, from+1, visit)
		l[from], l[i] = l[i], l[from]
	}
}

func TestEveryOrder(t *testing.T) {
	for _, x := range []struct {
		l    []int64
		want int64
		e    api.Errno
	}{
		{[]int64{greatest, 1, -1}, greatest, api.OK},
		{[]int64{greatest, greatest, 2, 1, least, least}, 1, api.OK},
		{[]int64{greatest, greatest, 1, least, least + 1, 5, -7}, -2, api.OK},
		{[]int64{greatest, greatest, greatest, least, least, 3, -1}, greatest, api.OK},
		{[]int64{least, least, least, greatest, greatest, -1, 3}, least, api.OK},
		{[]int64{greatest, greatest, greatest, least, least, 3, 0}, 0, api.ErrOver},
		{[]int64{least, least, least, greatest, greatest, -1, 2}, 0, api.ErrOver},
		{[]int64{1 << 62, 1 << 62, 1 << 62, 1 << 62, -1 << 62, -1 << 62, -1}, greatest, api.OK},
	} {
		eachOrder(slices.Clone(x.l), 0, func(l []int64) {
			if got, e := money.Sum(l...); got != x.want || e != x.e {
				t.Fatalf("Sum(%d): %d, %v, not %d, %v", l, got, e, x.want, x.e)
			}
		})
	}
}

// FuzzSum takes any bytes as numbers, eight of them each.
func FuzzSum(f *testing.F) {
	f.Add([]byte("\x7f\xff\xff\xff\xff\xff\xff\xff\x00\x00\x00\x00\x00\x00\x00\x01\xff\xff\xff\xff\xff\xff\xff\xff"))
	f.Add([]byte{})
	f.Fuzz(func(t *testing.T, b []byte) {
		var l []int64
		for ; len(b) >= 8; b = b[8:] {
			l = append(l, int64(binary.BigEndian.Uint64(b)))
		}
		sumsUp(t, l...)
	})
}
