package store_test

import (
	"bytes"
	"encoding/binary"
	"math"
	"slices"
	"testing"

	"quitrent/api"
	"quitrent/disk"
	"quitrent/frame"
	"quitrent/store"
)

// newDisk is a disk of that many pages.
func newDisk(t testing.TB, pages int) *disk.Disk {
	t.Helper()
	d, e := disk.New(pages)
	if e != api.OK {
		t.Fatalf("New(%d): %v", pages, e)
	}
	return d
}

// open is the store on d.
func open(t testing.TB, d *disk.Disk) *store.Store {
	t.Helper()
	s, e := store.Open(d)
	if e != api.OK || s == nil {
		t.Fatalf("Open: %v, %v", s, e)
	}
	return s
}

// made is a new disk of that many pages, and the store on it.
func made(t testing.TB, pages int) (*disk.Disk, *store.Store) {
	t.Helper()
	d := newDisk(t, pages)
	return d, open(t, d)
}

// wrongPages are no pages of a disk of size ones.
func wrongPages(size int) []int {
	return []int{math.MinInt, math.MinInt32, -api.MaxPages, -8, -2, -1, size, size + 1, size + 7, api.MaxPages, api.MaxPages + 2, 1 << 32, 1<<32 + 2, math.MaxInt}
}

// pattern is n bytes that hang on seed.
func pattern(seed, n int) []byte {
	b := make([]byte, n)
	for i := range b {
		b[i] = byte(seed + i*7 + i/256)
	}
	return b
}

// answers fails where a call's error is another one.
func answers(t testing.TB, call string, got, want api.Errno) {
	t.Helper()
	if got != want {
		t.Errorf("%s: %v, not %v", call, got, want)
	}
}

// takes fails where b is not taken as page want.
func takes(t testing.TB, s *store.Store, b string, want int) {
	t.Helper()
	if p, e := s.Take([]byte(b)); p != want || e != api.OK {
		t.Errorf("Take(%.9q): %d, %v, not %d", b, p, e, want)
	}
}

// takesNot fails where anything is answered beside that error.
func takesNot(t testing.TB, s *store.Store, b []byte, want api.Errno) {
	t.Helper()
	if p, e := s.Take(b); p != 0 || e != want {
		t.Errorf("Take of %d bytes: %d, %v, not 0, %v", len(b), p, e, want)
	}
}

// gives fails where a page is not given.
func gives(t testing.TB, s *store.Store, pages ...int) {
	t.Helper()
	for _, p := range pages {
		if e := s.Give(p); e != api.OK {
			t.Errorf("Give(%d): %v", p, e)
		}
	}
}

// roots fails where p does not become the root.
func roots(t testing.TB, s *store.Store, p int) {
	t.Helper()
	if e := s.SetRoot(p); e != api.OK || s.Root() != p {
		t.Errorf("SetRoot(%d): %v, and the root is %d", p, e, s.Root())
	}
}

// commits fails where nothing is committed.
func commits(t testing.TB, s *store.Store) {
	t.Helper()
	answers(t, "Commit", s.Commit(), api.OK)
}

// marks fails where the next mark is another one.
func marks(t testing.TB, s *store.Store, want int) {
	t.Helper()
	if m := s.Mark(); m != want {
		t.Errorf("Mark: %d, not %d", m, want)
	}
}

// back fails where a call of Back answers otherwise.
func back(t testing.TB, s *store.Store, m int, want api.Errno) {
	t.Helper()
	if e := s.Back(m); e != want {
		t.Errorf("Back(%d): %v, not %v", m, e, want)
	}
}

// held is pages, and what they hold.
type held map[int]string

// looks fails where s, on a disk of size pages of which given ones are not free yet, is not that of this root and these pages.
func looks(t testing.TB, s *store.Store, size, given, root int, pages held) {
	t.Helper()
	if want := size - 2 - given - len(pages); s.Root() != root || s.Left() != want {
		t.Errorf("the root is %d, and %d pages are left, not %d, %d", s.Root(), s.Left(), root, want)
	}
	for p := -1; p <= size; p++ {
		b, e := s.Read(p)
		if want, ok := pages[p]; ok && (e != api.OK || string(b) != want) {
			t.Errorf("Read(%d): %.9q, %v, not %.9q", p, b, e, want)
		} else if !ok && (e != api.ErrArg || len(b) != 0) {
			t.Errorf("Read(%d), which is not taken: %.9q, %v", p, b, e)
		}
	}
}

// says is the bytes of a head on a disk of size pages, as the chapter's Words tell it, whether they may be said or not.
func says(size int, root uint64, taken ...int) []byte {
	b := binary.BigEndian.AppendUint64(nil, root)
	bits := make([]byte, (size+7)/8)
	for _, p := range taken {
		bits[p/8] |= []byte{1, 2, 4, 8, 16, 32, 64, 128}[p%8]
	}
	return append(b, bits...)
}

// put is a frame.
func put(t testing.TB, at int, kind uint8, stamp uint64, b []byte) []byte {
	t.Helper()
	page, e := frame.Put(at, kind, stamp, b)
	if e != api.OK {
		t.Fatalf("Put(%d, %d, %d, %d bytes): %v", at, kind, stamp, len(b), e)
	}
	return page
}

// lay lets a page of d last as b.
func lay(t testing.TB, d *disk.Disk, at int, b []byte) {
	t.Helper()
	if e := d.Write(at, b); e != api.OK {
		t.Fatalf("Write(%d): %v", at, e)
	}
	if e := d.Flush(); e != api.OK {
		t.Fatalf("Flush: %v", e)
	}
}

// on is what page at of d is.
func on(t testing.TB, d *disk.Disk, at int) []byte {
	t.Helper()
	b, e := d.Read(at)
	if e != api.OK {
		t.Fatalf("Read(%d) of the disk: %v", at, e)
	}
	return b
}

// whole is all of d, dead or not, page by page: what waits, or else what lasts.
func whole(t testing.TB, d *disk.Disk) [][]byte {
	t.Helper()
	var all [][]byte
	for at := range d.Size() {
		all = append(all, on(t, d, at))
	}
	return all
}

// writesNothing fails where act writes or flushes anything.
func writesNothing(t testing.TB, name string, d *disk.Disk, act func()) {
	t.Helper()
	ahead := whole(t, d)
	d.Fuse(0)
	act()
	if d.Dead() || len(d.Waits()) != 0 {
		t.Fatalf("%s: the disk is dead: %v, and %v wait", name, d.Dead(), d.Waits())
	}
	d.Fuse(-1)
	if !slices.EqualFunc(ahead, whole(t, d), bytes.Equal) {
		t.Errorf("%s: pages of the disk are others", name)
	}
}

// headOf fails where head at of d is not the frame of this stamp that says this.
func headOf(t testing.TB, d *disk.Disk, at int, stamp uint64, said []byte) {
	t.Helper()
	if want := put(t, at, 1, stamp, said); !bytes.Equal(on(t, d, at), want) {
		b, s, ok := frame.Get(on(t, d, at), at, 1)
		t.Errorf("head %d: %x, %d, %v, not %x, %d", at, b, s, ok, said, stamp)
	}
}

// pageOf fails where page at of d is not the frame of this stamp that holds b.
func pageOf(t testing.TB, d *disk.Disk, at int, stamp uint64, b string) {
	t.Helper()
	if want := put(t, at, 2, stamp, []byte(b)); !bytes.Equal(on(t, d, at), want) {
		got, s, ok := frame.Get(on(t, d, at), at, 2)
		t.Errorf("page %d: %.9q, %d, %v, not %.9q, %d", at, got, s, ok, b, stamp)
	}
}

// torn is a page whose first sectors are b's, as many as n, and whose others are a's.
func torn(a, b []byte, n int) []byte {
	return slices.Concat(b[:n*api.Sector], a[n*api.Sector:])
}
