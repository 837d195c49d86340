package base_test

import (
	"fmt"
	"maps"
	"math/rand"
	"strconv"
	"testing"

	"quitrent/api"
	"quitrent/base"
	"quitrent/disk"
)

// P7.4: what follows.

const powerSize = 40

// transactions are some, one behind the other: of no pages, of one, and of many.
var transactions = []func(t testing.TB, m pairs, b *base.Base){
	func(t testing.TB, m pairs, b *base.Base) { m.put(t, b, "a", "1") },
	func(t testing.TB, m pairs, b *base.Base) {
		m.put(t, b, "b", "2")
		m.put(t, b, "a", "3")
	},
	func(t testing.TB, m pairs, b *base.Base) {
		for i := range 40 {
			m.put(t, b, fmt.Sprintf("k%02d", i), long(strconv.Itoa(i), i*97%700))
		}
	},
	func(t testing.TB, m pairs, b *base.Base) {
		for i := range 20 {
			m.remove(t, b, fmt.Sprintf("k%02d", i*2))
			m.put(t, b, fmt.Sprintf("k%02d", i*2+1), long("new", i*40))
		}
		m.remove(t, b, "a")
	},
	func(t testing.TB, m pairs, b *base.Base) { m.put(t, b, "k21", long("another one", 1024)) },
	func(t testing.TB, m pairs, b *base.Base) {
		for _, p := range m.within("", "") {
			m.remove(t, b, string(p.Key))
		}
	},
	func(t testing.TB, m pairs, b *base.Base) { m.put(t, b, "b", "4") },
}

// upTo is a disk on which the first n are committed, its base, and what that has.
func upTo(t testing.TB, n int) (*disk.Disk, *base.Base, pairs) {
	t.Helper()
	d, b := made(t, powerSize)
	m := pairs{}
	for _, act := range transactions[:n] {
		act(t, m, b)
		commits(t, b)
	}
	return d, b, m
}

// callsOf is how many calls of Write and Flush the Commit of the n-th is.
func callsOf(t testing.TB, n int) int {
	t.Helper()
	for fuse := 0; ; fuse++ {
		d, b, m := upTo(t, n)
		transactions[n](t, m, b)
		d.Fuse(fuse)
		if b.Commit() == api.OK {
			return fuse
		}
	}
}

// At each call of each Commit the power goes, and comes again with all sectors of what waited, with none, and with any: there is what was committed, and of what was being committed all, if its head lasts, or nothing.
func TestPowerAtEachCall(t *testing.T) {
	for n := range transactions {
		t.Run(strconv.Itoa(n), func(t *testing.T) {
			t.Parallel()
			random := rand.New(rand.NewSource(int64(n)))
			calls := callsOf(t, n)
			if calls < 3 {
				t.Fatalf("a Commit of %d calls", calls)
			}
			for fuse := range calls {
				fates := [][]int{nil, {255}, {0, 255}, {254, 127, 1}, {-1, -1, -1, -1}, {-256}, drawnFates(random), drawnFates(random), everything()}
				for bit := range 8 {
					fates = append(fates, []int{1 << bit}, []int{255 - 1<<bit})
				}
				for _, f := range fates {
					// The head is the last but one; the flush behind it is the last.
					whole := fuse >= calls-2 && len(f) > 0 && f[0]&255 == 255
					goesBy(t, n, fuse, f, whole)
				}
			}
		})
	}
}

// everything is fates by which all lasts.
func everything() []int {
	fates := make([]int, powerSize)
	for i := range fates {
		fates[i] = 255
	}
	return fates
}

// goesBy lets the power go at that call of the n-th one's Commit, and come with these fates, and fails where anything else is there than ahead of it, or, if it is to be there wholly, behind it. Then it is gone on with.
func goesBy(t *testing.T, n, fuse int, fates []int, whole bool) {
	t.Helper()
	d, b, m := upTo(t, n)
	was := maps.Clone(m)
	transactions[n](t, m, b)
	is := maps.Clone(m)
	d.Fuse(fuse)
	answers(t, "Commit", b.Commit(), api.ErrDead)
	dead(t, "behind that Commit", b, true)
	d.Restart(fates)
	dead(t, "of a base that met it", b, true)
	want := was
	if whole {
		want = is
	}
	b = open(t, d)
	if got := all(t, b); !maps.Equal(got, want) {
		t.Fatalf("the power goes at call %d of transaction %d, fates %v: %d pairs, not %d, or others; wholly there: %v", fuse, n, fates, len(got), len(want), whole)
	}
	want.looks(t, b)
	roomy(t, b, powerSize)
	if !whole {
		transactions[n](t, was, b)
		commits(t, b)
	}
	is.looks(t, open(t, d))
}

// Of a head that was being written, each choice of its sectors.
func TestPowerOverAHead(t *testing.T) {
	for _, n := range []int{1, 5} {
		calls := callsOf(t, n)
		for fate := range 256 {
			goesBy(t, n, calls-2+fate%2, []int{fate}, fate == 255)
		}
	}
}

// The power goes, and goes again, while one transaction is committed, until it is; those ahead of it stay, in their order.
func TestPowerAgainAndAgain(t *testing.T) {
	random := rand.New(rand.NewSource(75))
	for range 25 {
		d, b, m := upTo(t, 0)
		for _, act := range transactions {
			was := maps.Clone(m)
			for {
				m = maps.Clone(was)
				act(t, m, b)
				if random.Intn(4) > 0 {
					d.Fuse(random.Intn(14))
				}
				e := b.Commit()
				if e != api.OK || random.Intn(2) == 0 {
					d.Restart(drawnFates(random))
					b = open(t, d)
				}
				d.Fuse(-1)
				got := all(t, b)
				if maps.Equal(got, m) {
					break
				}
				if e == api.OK || !maps.Equal(got, was) {
					t.Fatalf("Commit %v: %d pairs, not %d, nor %d, or others", e, len(got), len(was), len(m))
				}
			}
		}
	}
}

// Any transactions, committed, aborted, or left, and the power that goes at any time.
func TestPowerOverAnyTransactions(t *testing.T) {
	random := rand.New(rand.NewSource(76))
	for range 30 {
		size := 4 + random.Intn(30)
		d, b := made(t, size)
		was := pairs{}
		for i := range 60 {
			m := maps.Clone(was)
			scribble(t, b, m, random, i)
			switch random.Intn(8) {
			case 0: // left
				d.Kill()
				d.Restart(drawnFates(random))
				b = open(t, d)
			case 1:
				b.Abort()
			case 2, 3:
				commits(t, b)
				was = m
			default:
				d.Fuse(random.Intn(12))
				e := b.Commit()
				d.Restart(drawnFates(random))
				b = open(t, d)
				if got := all(t, b); maps.Equal(got, m) {
					was = m
				} else if e == api.OK {
					t.Fatalf("it was committed, and it is not there: %d pairs, not %d", len(got), len(m))
				}
			}
			was.ranges(t, b, "", "")
			roomy(t, b, size)
		}
		was.looks(t, open(t, d))
	}
}

// scribble does anything, to b and to m.
func scribble(t testing.TB, b *base.Base, m pairs, random *rand.Rand, name int) {
	t.Helper()
	for range random.Intn(10) {
		k := strconv.Itoa(random.Intn(60))
		if random.Intn(3) == 0 {
			if _, e := b.Delete([]byte(k)); e == api.OK {
				delete(m, k)
			}
			continue
		}
		v := long(strconv.Itoa(name), random.Intn(3)*random.Intn(400))
		if e := b.Put([]byte(k), []byte(v)); e == api.OK {
			m[k] = v
		}
	}
}
