package base_test

import (
	"fmt"
	"maps"
	"math/rand"
	"strconv"
	"testing"

	"quitrent/api"
	"quitrent/base"
	"quitrent/tree"
)

// P7.3: Commit, Abort.

// What is asked within a transaction sees what was done in it; on the disk nothing of it is, till it is committed.
func TestTransactionSeesItself(t *testing.T) {
	for _, n := range []int{1, 5, 100} {
		d, b := made(t, 90)
		m, was := pairs{}, pairs{}
		sees := func() {
			t.Helper()
			m.looks(t, b)
			m.gets(t, b, "none")
			m.ranges(t, b, "k1", "k3")
			was.looks(t, open(t, d))
		}
		for round := range 3 {
			writesNothing(t, "a transaction that is not committed", d, func() {
				for i := range n {
					m.put(t, b, "k"+strconv.Itoa(i), long(fmt.Sprint(round, i), 200+round))
				}
				sees()
				m.put(t, b, "k0", "another one")
				m.put(t, b, "k0", "and another one")
				sees()
				m.remove(t, b, "k"+strconv.Itoa(n-1))
				m.remove(t, b, "none")
				sees()
			})
			commits(t, b)
			was = maps.Clone(m)
			sees()
		}
	}
}

// Behind Abort all is as at the last Commit, and what is done then is another transaction.
func TestAbort(t *testing.T) {
	for _, n := range []int{0, 1, 5, 60} {
		d, b := made(t, 80)
		m := pairs{}
		for i := range n {
			m.put(t, b, "k"+strconv.Itoa(i), long(strconv.Itoa(i), 300))
		}
		commits(t, b)
		was := maps.Clone(m)
		for name, act := range map[string]func(){
			"nothing": func() {},
			"pairs": func() {
				for i := range 60 {
					m.put(t, b, "x"+strconv.Itoa(i), long("x", 300))
				}
			},
			"other values": func() {
				for i := range n {
					m.put(t, b, "k"+strconv.Itoa(i), "")
				}
			},
			"all is deleted": func() {
				for k := range was {
					m.remove(t, b, k)
				}
			},
			"all is deleted, and put again": func() {
				for k, v := range was {
					m.remove(t, b, k)
					m.put(t, b, k, v)
				}
			},
		} {
			writesNothing(t, name, d, func() {
				act()
				m.looks(t, b)
				b.Abort()
				m = maps.Clone(was)
				m.looks(t, b)
				b.Abort() // of nothing
				m.looks(t, b)
				commits(t, b) // of nothing, too
			})
			m.looks(t, open(t, d))
			m.put(t, b, "behind", name)
			commits(t, b)
			m.looks(t, open(t, d))
			m.remove(t, b, "behind")
			commits(t, b)
		}
	}
}

// An Abort behind a Commit takes back nothing of it.
func TestAbortBehindCommit(t *testing.T) {
	d, b := made(t, 30)
	m := pairs{}
	for i := range 10 {
		m.put(t, b, "k"+strconv.Itoa(i), long("v", i*100))
		m.remove(t, b, "k"+strconv.Itoa(i-3))
		commits(t, b)
		b.Abort()
		m.looks(t, b)
		m.looks(t, open(t, d))
	}
}

// A Commit of nothing writes nothing, so it is done however soon the power would go.
func TestCommitOfNothing(t *testing.T) {
	d, b := made(t, 30)
	m := pairs{}
	for range 2 {
		for name, act := range map[string]func(){
			"nothing":            func() {},
			"questions":          func() { m.looks(t, b); b.Dead() },
			"no key":             func() { answers(t, "Put", b.Put(nil, nil), api.ErrArg) },
			"a long key":         func() { answers(t, "Put", b.Put(make([]byte, 257), nil), api.ErrLong) },
			"a long value":       func() { answers(t, "Put", b.Put([]byte("a"), make([]byte, 1025)), api.ErrLong) },
			"what there is not":  func() { m.remove(t, b, "none") },
			"what was taken":     func() { b.Put([]byte("x"), []byte("y")); b.Abort() },
			"what was taken out": func() { b.Delete([]byte("a")); b.Abort() },
		} {
			writesNothing(t, "Commit of "+name, d, func() {
				act()
				commits(t, b)
				commits(t, b)
			})
			m.looks(t, b)
		}
		m.put(t, b, "a", "1")
		commits(t, b)
	}
}

// Behind a Put that is refused the transaction is as it was ahead of it: Abort takes it away, Commit lets it last.
func TestRefusedPut(t *testing.T) {
	for size := 4; size < 20; size++ {
		d, b := made(t, size)
		m := pairs{}
		m.put(t, b, "a", long("1", 100))
		commits(t, b)
		for round := range 4 {
			was := maps.Clone(m)
			m.fills(t, b, kinds()[round%3])
			for _, k := range []string{"", long("k", 257)} {
				if e := b.Put([]byte(k), nil); e == api.OK {
					t.Fatalf("Put of a key of %d bytes: %v", len(k), e)
				}
			}
			m.looks(t, b)
			if round%2 == 0 {
				b.Abort()
				m = was
			} else {
				commits(t, b)
			}
			m.looks(t, b)
			m.looks(t, open(t, d))
		}
	}
}

// kinds are pairs, the i-th of each: of values that differ, of small ones, and of long keys.
func kinds() []func(i int) (k, v string) {
	name := func(i int) string { return fmt.Sprintf("%05d", i*7919%10007) }
	return []func(i int) (k, v string){
		func(i int) (k, v string) { return name(i), long(strconv.Itoa(i), i*331%1025) },
		func(i int) (k, v string) { return name(i), long(strconv.Itoa(i), 100) },
		func(i int) (k, v string) { return long(name(i), 256), strconv.Itoa(i) },
	}
}

// fills puts pairs until there are too few pages, and tells how many.
func (m pairs) fills(t *testing.T, b *base.Base, pair func(i int) (k, v string)) int {
	t.Helper()
	for i := 0; ; i++ {
		k, v := pair(i)
		switch e := b.Put([]byte(k), []byte(v)); e {
		case api.OK:
			m[k] = v
		case api.ErrFull:
			if b.Left() >= 20 && len(m) <= 2000 {
				t.Fatalf("ErrFull of %d pairs, and %d pages are left", len(m), b.Left())
			}
			return i
		default:
			t.Fatal(e)
		}
	}
}

// empties deletes all pairs, each in a transaction of its own, and fails where none of those that are left can be.
func (m pairs) empties(t *testing.T, b *base.Base) {
	t.Helper()
	for len(m) > 0 {
		ahead := len(m)
		for _, p := range m.within("", "") {
			switch was, e := b.Delete(p.Key); {
			case was && e == api.OK:
				delete(m, string(p.Key))
			case was || e != api.ErrFull:
				t.Fatalf("Delete: %v, %v", was, e)
			}
			commits(t, b)
		}
		if m.looks(t, b); len(m) == ahead {
			t.Fatalf("none of %d pairs can be deleted, and %d pages are left", ahead, b.Left())
		}
	}
}

// roomy fails where a page of b's disk, of size ones, is neither the tree's nor free.
func roomy(t *testing.T, b *base.Base, size int) {
	t.Helper()
	_, pages, _, e := tree.Size(b.Store)
	if answers(t, "Size", e, api.OK); b.Left()+pages != size-2 {
		t.Fatalf("of %d pages %d are left, and %d are the tree's", size, b.Left(), pages)
	}
}

// A store that is full, and is emptied again, has all its room again, and holds as much as it did, time for time.
func TestFullAndEmptied(t *testing.T) {
	for _, pair := range kinds() {
		for _, size := range []int{4, 5, 6, 7, 8, 9, 12, 15, 24, 26} {
			d, b := made(t, size)
			var held int
			for round := range 3 {
				m := pairs{}
				m.fills(t, b, pair)
				b.Abort()
				pairs{}.looks(t, b)
				roomy(t, b, size)

				m = pairs{}
				n := m.fills(t, b, pair)
				if round == 0 {
					held = n
				}
				if n != held || n == 0 {
					t.Fatalf("a disk of %d pages held %d pairs, and in round %d %d", size, held, round, n)
				}
				commits(t, b)
				roomy(t, b, size)
				if round == 1 {
					b = open(t, d)
					m.looks(t, b)
				}
				m.empties(t, b)
				if b.Left() != size-2 {
					t.Fatalf("a disk of %d pages: %d are left", size, b.Left())
				}
				pairs{}.looks(t, open(t, d))
			}
		}
	}
}

// However many transactions come one behind the other, no room is lost: by those that are committed, nor by those that are not.
func TestRoomIsNeverLost(t *testing.T) {
	random := rand.New(rand.NewSource(71))
	for _, size := range []int{5, 8, 13, 30} {
		d, b := made(t, size)
		m, was := pairs{}, pairs{}
		for range 400 {
			for range random.Intn(6) {
				k := strconv.Itoa(random.Intn(size * 2))
				if random.Intn(3) == 0 {
					if found, e := b.Delete([]byte(k)); e == api.OK {
						delete(m, k)
					} else if found || e != api.ErrFull {
						t.Fatalf("Delete: %v, %v", found, e)
					}
					continue
				}
				v := long(k, random.Intn(700))
				if e := b.Put([]byte(k), []byte(v)); e == api.OK {
					m[k] = v
				} else if e != api.ErrFull {
					t.Fatalf("Put: %v", e)
				}
			}
			switch random.Intn(4) {
			case 0:
				b.Abort()
				m = maps.Clone(was)
			case 1:
				b = open(t, d)
				m = maps.Clone(was)
			default:
				commits(t, b)
				was = maps.Clone(m)
			}
			roomy(t, b, size)
			m.ranges(t, b, "", "")
		}
		m.looks(t, b)
	}
}

// Whoever has a transaction that the power went by, but no Commit, goes on with it, or aborts it.
func TestPowerWithinATransaction(t *testing.T) {
	for _, abort := range []bool{false, true} {
		d, b := made(t, 12)
		m := pairs{}
		m.put(t, b, "a", "1")
		commits(t, b)
		was := maps.Clone(m)
		m.put(t, b, "b", "2")
		d.Kill()
		refusals(t, "dead", b, api.ErrDead)
		if abort {
			b.Abort()
			m = was
		}
		d.Restart(nil)
		m.looks(t, b)
		commits(t, b)
		m.looks(t, open(t, d))
	}
}
