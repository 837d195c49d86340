package tree_test

import (
	"fmt"
	"math/rand"
	"strconv"
	"testing"

	"quitrent/api"
	"quitrent/store"
	"quitrent/tree"
)

// fullOr does act, and fails where it answers anything but OK, or ErrFull with anything done. It tells whether it was done.
func fullOr(t testing.TB, m pairs, s *store.Store, act func() api.Errno) bool {
	t.Helper()
	ahead := see(s)
	switch e := act(); e {
	case api.OK:
		return true
	case api.ErrFull:
		if !see(s).same(ahead) {
			t.Fatal("ErrFull, and something is done")
		}
		if ahead.left >= 20 && len(m) <= 2000 {
			t.Fatalf("ErrFull of %d pairs, and %d pages are free", len(m), ahead.left)
		}
	default:
		t.Fatal(e)
	}
	return false
}

// tryPut puts a pair, if there are pages enough.
func (m pairs) tryPut(t testing.TB, s *store.Store, k, v string) bool {
	t.Helper()
	done := fullOr(t, m, s, func() api.Errno { return tree.Put(s, []byte(k), []byte(v)) })
	if done {
		m[k] = v
	}
	m.gets(t, s, k)
	return done
}

// tryRemove deletes a key, if there are pages enough.
func (m pairs) tryRemove(t testing.TB, s *store.Store, k string) bool {
	t.Helper()
	_, there := m[k]
	done := fullOr(t, m, s, func() api.Errno {
		was, e := tree.Delete(s, []byte(k))
		if was != (there && e == api.OK) {
			t.Fatalf("Delete: %v, %v", was, e)
		}
		return e
	})
	if done {
		delete(m, k)
	}
	m.gets(t, s, k)
	return done
}

// P6.2, P6.3: of a store that is full, or nearly so, on disks of all sizes.
func TestFull(t *testing.T) {
	random := rand.New(rand.NewSource(67))
	for size := 4; size < 40; size += 1 + size/10 {
		d := newDisk(t, size)
		s, m := open(t, d), pairs{}
		fulls := 0
		for i := range 150 {
			k := long(strconv.Itoa(random.Intn(size*4)), 6+random.Intn(3)*100)
			done := true
			switch n := random.Intn(38); {
			case n < 25:
				done = m.tryPut(t, s, k, long(strconv.Itoa(i), random.Intn(3)*512))
			case n < 37 && len(m) > size:
				done = m.tryRemove(t, s, k)
			default:
				answers(t, "Commit", s.Commit(), api.OK)
				s = open(t, d)
			}
			if !done {
				fulls++
			}
		}
		m.looks(t, s)
		if fulls == 0 {
			t.Errorf("a disk of %d pages was never full", size)
		}
	}
}

// A Put, or a Delete, that answers ErrFull is no change at all, and leaves no mark.
func TestFullIsNoChange(t *testing.T) {
	for _, size := range []int{4, 5, 9, 20, 40} {
		d := newDisk(t, size)
		s, m := open(t, d), pairs{}
		name := func(i int) string { return fmt.Sprintf("%04d", i) }
		for i := 0; m.tryPut(t, s, name(i), long("v", 900)); i++ {
		}
		answers(t, "Commit", s.Commit(), api.OK)
		for s.Left() > 0 { // and now really so
			if _, e := s.Take(nil); e != api.OK {
				t.Fatal(e)
			}
		}
		answers(t, "Commit", s.Commit(), api.OK)
		writesNothing(t, "calls that answer ErrFull", d, s, func() {
			ahead := see(s)
			for i := range 2 * size {
				answers(t, "Put", tree.Put(s, []byte(name(i)+"x"), nil), api.ErrFull)
				answers(t, "Put", tree.Put(s, []byte(name(i)), []byte("another one")), api.ErrFull)
			}
			for k := range m {
				if len(m) == 1 {
					break // the only pair needs no page to be gone
				}
				if was, e := tree.Delete(s, []byte(k)); was || e != api.ErrFull {
					t.Fatalf("Delete: %v, %v", was, e)
				}
			}
			for k, v := range m { // what changes nothing needs none either
				answers(t, "Put of the same", tree.Put(s, []byte(k), []byte(v)), api.OK)
				m.gets(t, s, k)
			}
			m.remove(t, s, "x")
			if !see(s).same(ahead) {
				t.Error("something is done")
			}
		})
		if n := s.Mark(); n != 1 {
			t.Errorf("the first mark is %d", n)
		}
	}
}

// The last pair can be deleted from a store that is full.
func TestDeleteTheLastOfAFullStore(t *testing.T) {
	s, m := made(t, 4), pairs{}
	m.put(t, s, "a", "1")
	answers(t, "Commit", s.Commit(), api.OK)
	s.Take(nil)
	answers(t, "Put", tree.Put(s, []byte("a"), nil), api.ErrFull)
	m.gets(t, s, "a")
	m.remove(t, s, "a")
	sizes(t, s, 0, 0, 0)
	answers(t, "Put", tree.Put(s, []byte("a"), nil), api.ErrFull) // its page is not free yet
	answers(t, "Commit", s.Commit(), api.OK)
	m.put(t, s, "b", "2")
}

// With 20 pages free, and no more than 2,000 pairs, there are always enough: all others are taken by what is none of the tree.
func TestTwentyPagesAreEnough(t *testing.T) {
	for _, k := range kinds() {
		k.count = 2000
		if k.name == "keys that begin others" {
			k.count = 500 // there are no more
		}
		for _, order := range []string{"forth", "back", "any"} {
			t.Run(k.name+", "+order, func(t *testing.T) {
				t.Parallel()
				twenty(t, k, orders(k.count)[order])
			})
		}
	}
}

// twenty puts 2,000 pairs, takes bytes from, or gives them to, some, and deletes all, with 20 pages free at each.
func twenty(t *testing.T, k kind, order []int) {
	s := made(t, api.MaxPages)
	var filler []int
	tight := func(name string, act func() api.Errno) {
		t.Helper()
		for s.Left() > 20 {
			p, e := s.Take(nil)
			if e != api.OK {
				t.Fatal(e)
			}
			filler = append(filler, p)
		}
		for s.Left() < 20 {
			if e := s.Give(filler[len(filler)-1]); e != api.OK {
				t.Fatal(e)
			}
			filler = filler[:len(filler)-1]
		}
		if e := act(); e != api.OK {
			t.Fatalf("%s: %v", name, e)
		}
	}
	put := func(i int, v string) {
		tight("Put", func() api.Errno { return tree.Put(s, []byte(k.key(i)), []byte(v)) })
	}
	for _, i := range order {
		put(i, k.value(i))
	}
	for n, i := range order {
		if n%5 == 0 {
			put(i, long("w", n%3*512))
		}
	}
	for _, i := range order {
		tight("Delete", func() api.Errno {
			was, e := tree.Delete(s, []byte(k.key(i)))
			if !was {
				t.Fatalf("Delete(%.9q): %v, %v", k.key(i), was, e)
			}
			return e
		})
	}
	sizes(t, s, 0, 0, 0)
}

// A store that only the tree's calls take pages of can be emptied again, however full it is: behind each Commit as many pages are free as the tree is deep, and so a pair can be deleted.
func TestFullIsEmptiedAgain(t *testing.T) {
	random := rand.New(rand.NewSource(68))
	depths := map[int]bool{}
	for _, size := range []int{4, 5, 6, 7, 8, 12, 24, 25, 26, 27, 28, 29, 30} {
		for i := range 4 {
			s, m := made(t, size), pairs{}
			for refused := 0; refused < 10; {
				k, v := long(strconv.Itoa(random.Intn(10000))+".", 256), long("v", random.Intn(2)*random.Intn(1+i*300))
				switch e := tree.Put(s, []byte(k), []byte(v)); e {
				case api.OK:
					m[k] = v
				case api.ErrFull:
					refused++
				default:
					t.Fatal(e)
				}
				answers(t, "Commit", s.Commit(), api.OK)
				_, _, deep, _ := tree.Size(s)
				if depths[deep] = true; s.Left() < deep {
					t.Fatalf("a disk of %d pages: the tree is %d deep, and %d pages are left", size, deep, s.Left())
				}
			}
			m.empties(t, s)
			if s.Left() != size-2 {
				t.Fatalf("a disk of %d pages: %d are left", size, s.Left())
			}
		}
	}
	if !depths[1] || !depths[2] || !depths[3] {
		t.Errorf("there were trees of these depths: %v", depths)
	}
}

// empties deletes all pairs, each in a change of its own, and fails where none of those that are left can be deleted.
func (m pairs) empties(t *testing.T, s *store.Store) {
	t.Helper()
	for len(m) > 0 {
		ahead := len(m)
		for _, p := range m.within("", "") {
			switch was, e := tree.Delete(s, p.Key); {
			case was && e == api.OK:
				delete(m, string(p.Key))
			case was || e != api.ErrFull:
				t.Fatalf("Delete: %v, %v", was, e)
			}
			answers(t, "Commit", s.Commit(), api.OK)
		}
		if len(m) == ahead {
			t.Fatalf("none of %d pairs can be deleted, and %d pages are left", ahead, s.Left())
		}
		m.looks(t, s)
	}
}
