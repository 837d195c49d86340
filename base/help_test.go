package base_test

import (
	"bytes"
	"maps"
	"math/rand"
	"slices"
	"testing"

	"quitrent/api"
	"quitrent/base"
	"quitrent/disk"
	"quitrent/tree"
)

// newDisk is a disk of that many pages.
func newDisk(t testing.TB, pages int) *disk.Disk {
	t.Helper()
	d, e := disk.New(pages)
	if e != api.OK {
		t.Fatalf("disk.New(%d): %v", pages, e)
	}
	return d
}

// open is the base of d.
func open(t testing.TB, d *disk.Disk) *base.Base {
	t.Helper()
	b, e := base.Open(d)
	if e != api.OK || b == nil || b.Dead() {
		t.Fatalf("Open: %v, %v", b, e)
	}
	return b
}

// made is a new disk of that many pages, and its base.
func made(t testing.TB, pages int) (*disk.Disk, *base.Base) {
	t.Helper()
	d := newDisk(t, pages)
	return d, open(t, d)
}

// opensNot fails where Open of d answers anything but this error.
func opensNot(t testing.TB, name string, d *disk.Disk, want api.Errno) {
	t.Helper()
	if b, e := base.Open(d); b != nil || e != want {
		t.Errorf("Open of %s: %v, %v, not %v", name, b, e, want)
	}
}

// answers fails where a call's error is another one.
func answers(t testing.TB, call string, got, want api.Errno) {
	t.Helper()
	if got != want {
		t.Fatalf("%s: %v, not %v", call, got, want)
	}
}

// commits fails where b's transaction is not committed.
func commits(t testing.TB, b *base.Base) {
	t.Helper()
	answers(t, "Commit", b.Commit(), api.OK)
}

// dead fails where b is, or is not.
func dead(t testing.TB, name string, b *base.Base, want bool) {
	t.Helper()
	if b.Dead() != want {
		t.Errorf("Dead %s: %v", name, !want)
	}
}

// pairs are what a base should have.
type pairs map[string]string

// put puts a pair, in b and in m.
func (m pairs) put(t testing.TB, b *base.Base, k, v string) {
	t.Helper()
	if e := b.Put([]byte(k), []byte(v)); e != api.OK {
		t.Fatalf("Put(%.9q, %d bytes): %v", k, len(v), e)
	}
	m[k] = v
}

// remove deletes a key, in b and in m.
func (m pairs) remove(t testing.TB, b *base.Base, k string) {
	t.Helper()
	_, want := m[k]
	if was, e := b.Delete([]byte(k)); was != want || e != api.OK {
		t.Fatalf("Delete(%.9q): %v, %v, not %v", k, was, e, want)
	}
	delete(m, k)
}

// gets fails where Get answers otherwise than m does.
func (m pairs) gets(t testing.TB, b *base.Base, k string) {
	t.Helper()
	want, there := m[k]
	v, ok, e := b.Get([]byte(k))
	if ok != there || e != api.OK || string(v) != want {
		t.Fatalf("Get(%.9q): %.9q, %v, %v, not %.9q, %v", k, v, ok, e, want, there)
	}
}

// within are those that are not below from, and below to, in order.
func (m pairs) within(from, to string) []tree.Pair {
	var l []tree.Pair
	for _, k := range slices.Sorted(maps.Keys(m)) {
		if k >= from && (to == "" || k < to) {
			l = append(l, tree.Pair{Key: []byte(k), Value: []byte(m[k])})
		}
	}
	return l
}

// ranges fails where Range answers otherwise than m does.
func (m pairs) ranges(t testing.TB, b *base.Base, from, to string) {
	t.Helper()
	l, e := b.Range([]byte(from), []byte(to))
	if want := m.within(from, to); e != api.OK || !samePairs(l, want) {
		t.Fatalf("Range(%.9q, %.9q): %d pairs, %v, not %d, or other ones", from, to, len(l), e, len(want))
	}
}

// looks fails where b is not m, wholly.
func (m pairs) looks(t testing.TB, b *base.Base) {
	t.Helper()
	m.ranges(t, b, "", "")
	for k := range m {
		m.gets(t, b, k)
		m.gets(t, b, k+"\x00")
	}
}

func samePairs(a, b []tree.Pair) bool {
	return slices.EqualFunc(a, b, func(a, b tree.Pair) bool {
		return bytes.Equal(a.Key, b.Key) && bytes.Equal(a.Value, b.Value)
	})
}

// all is what b has.
func all(t testing.TB, b *base.Base) pairs {
	t.Helper()
	l, e := b.Range(nil, nil)
	answers(t, "Range", e, api.OK)
	m := pairs{}
	for _, p := range l {
		m[string(p.Key)] = string(p.Value)
	}
	return m
}

// long is a text of n bytes that begins with name, as far as there is room.
func long(name string, n int) string {
	return (name + string(bytes.Repeat([]byte{'.'}, n)))[:n]
}

// lasting is all of d that lasts, page by page.
func lasting(t testing.TB, d *disk.Disk) [][]byte {
	t.Helper()
	if w := d.Waits(); len(w) != 0 {
		t.Fatalf("%v wait", w)
	}
	var all [][]byte
	for at := range d.Size() {
		b, e := d.Read(at)
		answers(t, "Read", e, api.OK)
		all = append(all, b)
	}
	return all
}

// lay lets page at of d last as b.
func lay(t testing.TB, d *disk.Disk, at int, b []byte) {
	t.Helper()
	answers(t, "Write", d.Write(at, b), api.OK)
	answers(t, "Flush", d.Flush(), api.OK)
}

// relay lets all of d last as it did.
func relay(t testing.TB, d *disk.Disk, pages [][]byte) {
	t.Helper()
	for at, b := range pages {
		answers(t, "Write", d.Write(at, b), api.OK)
	}
	answers(t, "Flush", d.Flush(), api.OK)
}

// writesNothing fails where act writes, or flushes, anything.
func writesNothing(t testing.TB, name string, d *disk.Disk, act func()) {
	t.Helper()
	ahead := lasting(t, d)
	d.Fuse(0)
	act()
	if d.Dead() {
		t.Fatalf("%s: something is written", name)
	}
	d.Fuse(-1)
	if !slices.EqualFunc(ahead, lasting(t, d), bytes.Equal) {
		t.Fatalf("%s: pages are others", name)
	}
}

// drawnFates are any, of as many pages as may wait.
func drawnFates(random *rand.Rand) []int {
	fates := make([]int, random.Intn(9))
	for i := range fates {
		switch random.Intn(4) {
		case 0:
			fates[i] = 255
		case 1:
			fates[i] = random.Intn(256)
		case 2:
			fates[i] = 1 << random.Intn(8)
		default:
			fates[i] = random.Intn(1<<20) - 1<<19
		}
	}
	return fates
}
