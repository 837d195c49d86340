package tree_test

import (
	"bytes"
	"maps"
	"slices"
	"testing"

	"quitrent/api"
	"quitrent/disk"
	"quitrent/store"
	"quitrent/tree"
)

// newDisk is a disk of that many pages.
func newDisk(t testing.TB, pages int) *disk.Disk {
	t.Helper()
	d, e := disk.New(pages)
	if e != api.OK {
		t.Fatalf("disk.New(%d): %v", pages, e)
	}
	return d
}

// open is the store on d.
func open(t testing.TB, d *disk.Disk) *store.Store {
	t.Helper()
	s, e := store.Open(d)
	if e != api.OK {
		t.Fatalf("Open: %v", e)
	}
	return s
}

// made is a new store on a disk of that many pages.
func made(t testing.TB, pages int) *store.Store {
	t.Helper()
	return open(t, newDisk(t, pages))
}

// answers fails where a call's error is another one.
func answers(t testing.TB, call string, got, want api.Errno) {
	t.Helper()
	if got != want {
		t.Fatalf("%s: %v, not %v", call, got, want)
	}
}

// pairs are what a tree should have.
type pairs map[string]string

// bound is how many pages a tree of these may take at most.
func (m pairs) bound() int {
	if len(m) == 0 {
		return 0
	}
	sum := 0
	for k, v := range m {
		sum += len(k) + len(v) + 8
	}
	return 3 + sum/1024
}

// within are those that are not below from, and below to, in order.
func (m pairs) within(from, to string) []tree.Pair {
	var l []tree.Pair
	for _, k := range slices.Sorted(maps.Keys(m)) {
		if k >= from && (to == "" || k < to) {
			l = append(l, tree.Pair{Key: []byte(k), Value: []byte(m[k])})
		}
	}
	return l
}

// put puts a pair, in s and in m.
func (m pairs) put(t testing.TB, s *store.Store, k, v string) {
	t.Helper()
	if e := tree.Put(s, []byte(k), []byte(v)); e != api.OK {
		t.Fatalf("Put(%.9q, %d bytes): %v", k, len(v), e)
	}
	m[k] = v
}

// remove deletes a key, in s and in m.
func (m pairs) remove(t testing.TB, s *store.Store, k string) {
	t.Helper()
	_, want := m[k]
	if was, e := tree.Delete(s, []byte(k)); was != want || e != api.OK {
		t.Fatalf("Delete(%.9q): %v, %v, not %v", k, was, e, want)
	}
	delete(m, k)
}

// gets fails where Get answers otherwise than m does.
func (m pairs) gets(t testing.TB, s *store.Store, k string) {
	t.Helper()
	want, there := m[k]
	v, ok, e := tree.Get(s, []byte(k))
	if ok != there || e != api.OK || string(v) != want {
		t.Fatalf("Get(%.9q): %.9q, %v, %v, not %.9q, %v", k, v, ok, e, want, there)
	}
}

// ranges fails where Range answers otherwise than m does.
func (m pairs) ranges(t testing.TB, s *store.Store, from, to string) {
	t.Helper()
	l, e := tree.Range(s, []byte(from), []byte(to))
	if want := m.within(from, to); e != api.OK || !slices.EqualFunc(l, want, samePair) {
		t.Fatalf("Range(%.9q, %.9q): %d pairs, %v, not %d, or other ones", from, to, len(l), e, len(want))
	}
}

func samePair(a, b tree.Pair) bool {
	return bytes.Equal(a.Key, b.Key) && bytes.Equal(a.Value, b.Value)
}

// sized fails where Size answers what may not be of m, or another number of pages than are taken. It answers how many pages there are, and how deep.
func (m pairs) sized(t testing.TB, s *store.Store) (pages, deep int) {
	t.Helper()
	n, pages, deep, e := tree.Size(s)
	if n != len(m) || e != api.OK {
		t.Fatalf("Size: %d pairs, %v, not %d", n, e, len(m))
	}
	if pages > m.bound() {
		t.Fatalf("%d pairs on %d pages, where %d are the most", n, pages, m.bound())
	}
	if (pages == 0) != (n == 0) || (deep == 0) != (n == 0) || deep > pages || (deep > 1) != (pages > 1) || (s.Root() == 0) != (n == 0) {
		t.Fatalf("Size: %d, %d, %d, and the root is %d", n, pages, deep, s.Root())
	}
	return pages, deep
}

// looks fails where the tree of s is not m, wholly, on the pages that are taken.
func (m pairs) looks(t testing.TB, s *store.Store) {
	t.Helper()
	m.ranges(t, s, "", "")
	for k := range m {
		m.gets(t, s, k)
	}
	if pages, _ := m.sized(t, s); pages != len(pagesOf(s)) {
		t.Fatalf("Size tells %d pages, and %d are taken", pages, len(pagesOf(s)))
	}
}

// pagesOf are the pages that are taken, and what they hold.
func pagesOf(s *store.Store) map[int]string {
	all := map[int]string{}
	for p := range api.MaxPages {
		if b, e := s.Read(p); e != api.ErrArg {
			all[p] = string(b)
		}
	}
	return all
}

// seen is all that is to be seen of a store, and of its tree.
type seen struct {
	root, left         int
	pages              map[int]string
	count, taken, deep int
	all                []tree.Pair
	e                  [2]api.Errno
}

func see(s *store.Store) seen {
	v := seen{root: s.Root(), left: s.Left(), pages: pagesOf(s)}
	v.all, v.e[0] = tree.Range(s, nil, nil)
	v.count, v.taken, v.deep, v.e[1] = tree.Size(s)
	return v
}

func (a seen) same(b seen) bool {
	return a.root == b.root && a.left == b.left && maps.Equal(a.pages, b.pages) && a.count == b.count && a.taken == b.taken && a.deep == b.deep && a.e == b.e && slices.EqualFunc(a.all, b.all, samePair)
}

// nothing fails where act, which is refused or has nothing to do, does anything: a change that was none is none behind it.
func nothing(t testing.TB, name string, s *store.Store, act func()) {
	t.Helper()
	ahead := see(s)
	if act(); !see(s).same(ahead) {
		t.Fatalf("%s: something is done", name)
	}
}

// writesNothing fails where act, and a Commit behind it, write anything to d.
func writesNothing(t testing.TB, name string, d *disk.Disk, s *store.Store, act func()) {
	t.Helper()
	d.Fuse(0)
	act()
	if e := s.Commit(); e != api.OK || d.Dead() {
		t.Fatalf("%s: there is something to commit", name)
	}
	d.Fuse(-1)
}

// long is a text of n bytes that begins with name, as far as there is room.
func long(name string, n int) string {
	return (name + string(bytes.Repeat([]byte{'.'}, n)))[:n]
}
