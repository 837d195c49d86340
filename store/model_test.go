package store_test

import (
	"bytes"
	"encoding/binary"
	"maps"
	"math/rand"
	"slices"
	"testing"

	"quitrent/api"
	"quitrent/disk"
	"quitrent/store"
)

// face is all of a change at one time, wholly copied where it is kept.
type face struct {
	root    int
	pages   held         // that are taken
	given   map[int]bool // that were taken ahead of the change
	fresh   map[int]bool // that were taken in it
	changed bool
}

func (f face) copied() face {
	f.pages, f.given, f.fresh = maps.Clone(f.pages), maps.Clone(f.given), maps.Clone(f.fresh)
	return f
}

// model is a store as the chapter's Words tell it, by whole copies of what it was, and the disk below it, page by page.
type model struct {
	size    int
	now     face
	was     face // as it was committed
	marks   []face
	pages   [][]byte // of the disk
	stamp   uint64
	inForce int // a head, or -1
	dead    bool
	off     bool // the disk is dead
}

func newModel(size int) *model {
	m := &model{size: size, inForce: -1}
	for range size {
		m.pages = append(m.pages, make([]byte, api.Page))
	}
	m.settle(face{pages: held{}})
	return m
}

// settle lets f be what is committed.
func (m *model) settle(f face) {
	f.given, f.fresh, f.changed = map[int]bool{}, map[int]bool{}, false
	m.now, m.was, m.marks = f.copied(), f.copied(), nil
}

func (m *model) abort() { m.now, m.marks = m.was.copied(), nil }

// refuses is why nothing is done at all.
func (m *model) refuses() api.Errno {
	if m.dead || m.off {
		return api.ErrDead
	}
	return api.OK
}

// free are the pages that are, in order.
func (m *model) free() []int {
	var all []int
	for p := 2; p < m.size; p++ {
		if _, ok := m.now.pages[p]; !ok && !m.now.given[p] {
			all = append(all, p)
		}
	}
	return all
}

func (m *model) take(b []byte) (int, api.Errno) {
	switch free := m.free(); {
	case m.refuses() != api.OK:
		return 0, api.ErrDead
	case len(b) > 4011:
		return 0, api.ErrLong
	case len(free) == 0:
		return 0, api.ErrFull
	default:
		m.now.pages[free[0]], m.now.fresh[free[0]], m.now.changed = string(b), true, true
		return free[0], api.OK
	}
}

func (m *model) give(p int) api.Errno {
	if m.refuses() != api.OK {
		return api.ErrDead
	}
	if _, ok := m.now.pages[p]; !ok || p == m.now.root {
		return api.ErrArg
	}
	if !m.now.fresh[p] {
		m.now.given[p] = true
	}
	delete(m.now.pages, p)
	delete(m.now.fresh, p)
	m.now.changed = true
	return api.OK
}

func (m *model) setRoot(p int) api.Errno {
	if m.refuses() != api.OK {
		return api.ErrDead
	}
	if _, ok := m.now.pages[p]; !ok && p != 0 {
		return api.ErrArg
	}
	m.now.root, m.now.changed = p, true
	return api.OK
}

func (m *model) mark() int {
	if m.refuses() != api.OK {
		return 0
	}
	m.marks = append(m.marks, m.now.copied())
	return len(m.marks)
}

func (m *model) back(k int) api.Errno {
	if m.refuses() != api.OK {
		return api.ErrDead
	}
	if k < 1 || k > len(m.marks) {
		return api.ErrArg
	}
	m.now, m.marks = m.marks[k-1].copied(), m.marks[:k]
	return api.OK
}

// written is a page that a commit writes.
type written struct {
	at int
	b  []byte
}

// writes are the pages that a commit would write, in order, the head last.
func (m *model) writes(t *testing.T) []written {
	var all []written
	for p := range m.size {
		if m.now.fresh[p] {
			all = append(all, written{p, put(t, p, 2, m.stamp+1, []byte(m.now.pages[p]))})
		}
	}
	head := 1
	if m.inForce == 1 {
		head = 0
	}
	said := says(m.size, uint64(m.now.root), slices.Collect(maps.Keys(m.now.pages))...)
	return append(all, written{head, put(t, head, 1, m.stamp+1, said)})
}

// commit does it, the power going at call fuse (below 0: never), and then coming again with these fates, where it went.
func (m *model) commit(t *testing.T, fuse int, fates []int) api.Errno {
	if m.refuses() != api.OK {
		m.dead = true
		return api.ErrDead
	}
	if !m.now.changed {
		m.abort()
		return api.OK
	}
	all := m.writes(t)
	head := all[len(all)-1]
	pages := all[:len(all)-1]
	calls := len(all) + 2
	if fuse >= 0 && fuse < calls {
		switch n := len(pages); {
		case fuse <= n: // at a page, or at the flush behind them all
			m.tear(pages[:min(fuse+1, n)], fates)
		default:
			m.lasts(pages)
			m.tear([]written{head}, fates)
		}
		m.dead = true
		return api.ErrDead
	}
	m.lasts(all)
	m.stamp, m.inForce = m.stamp+1, head.at
	m.settle(m.now)
	return api.OK
}

func (m *model) lasts(all []written) {
	for _, w := range all {
		m.pages[w.at] = w.b
	}
}

// tear lets some sectors last of pages that were under way.
func (m *model) tear(all []written, fates []int) {
	for k, w := range all {
		for s := range 8 {
			if k < len(fates) && uint(fates[k])&(1<<s) != 0 {
				m.pages[w.at] = slices.Concat(m.pages[w.at][:512*s], w.b[512*s:512*(s+1)], m.pages[w.at][512*(s+1):])
			}
		}
	}
}

// reopen is what a store that is opened anew is: all that the disk's pages tell, found without the store's own means.
func (m *model) reopen(t *testing.T) {
	m.dead, m.inForce, m.stamp = false, -1, 0
	var best uint64
	var root int
	var taken []int
	for at := range 2 {
		page := m.pages[at]
		for s := range 8 {
			m.stamp = max(m.stamp, binary.BigEndian.Uint64(page[512*s:]))
		}
		if r, all, stamp, ok := m.head(page); ok && stamp > best {
			best, m.inForce, root, taken = stamp, at, r, all
		}
	}
	f := face{root: root, pages: held{}}
	for _, p := range taken { // of the head in force alone: the other one may lean on pages that were written since
		f.pages[p] = m.inside(t, p)
	}
	m.settle(f)
}

// head is what page tells, a head that the model itself wrote: so it may be torn, but says nothing that may not be.
func (m *model) head(page []byte) (root int, taken []int, stamp uint64, ok bool) {
	stamp = binary.BigEndian.Uint64(page)
	for s := range 8 {
		if stamp == 0 || binary.BigEndian.Uint64(page[512*s:]) != stamp {
			return 0, nil, 0, false
		}
	}
	said := page[8+17:]
	for p := range m.size {
		if said[8+p/8]>>(p%8)&1 == 1 {
			taken = append(taken, p)
		}
	}
	return int(binary.BigEndian.Uint64(said)), taken, stamp, true
}

// inside is what a page of the disk holds.
func (m *model) inside(t *testing.T, p int) string {
	page := m.pages[p]
	var all []byte
	for s := range 8 {
		all = append(all, page[512*s+8:512*(s+1)]...)
	}
	b := all[17 : 17+binary.BigEndian.Uint64(all[9:])]
	if !bytes.Equal(page, put(t, p, 2, binary.BigEndian.Uint64(page), b)) {
		t.Fatalf("page %d, which a head leans on, is not whole", p)
	}
	return string(b)
}

// acts hands out numbers that say what is done: of bytes, or 0 behind their end.
type acts struct{ b []byte }

func (a *acts) next() int {
	if len(a.b) == 0 {
		return 0
	}
	n := a.b[0]
	a.b = a.b[1:]
	return int(n)
}

// drawn is bytes, mostly few.
func (a *acts) drawn() []byte {
	n := a.next()
	switch {
	case n < 20:
		return nil
	case n < 230:
		return pattern(a.next(), n%9)
	case n < 245:
		return pattern(a.next(), a.next()*16)
	default:
		return pattern(a.next(), api.Room-1+n%3)
	}
}

func (a *acts) fates() []int {
	var all []int
	for range a.next() % 5 {
		switch n := a.next(); {
		case n < 100:
			all = append(all, 255)
		case n < 140:
			all = append(all, 0)
		default:
			all = append(all, a.next()-128) // with bits beyond the sectors', too
		}
	}
	return all
}

// both are a store and the model of it, on their disks.
type both struct {
	d *disk.Disk
	s *store.Store
	m *model
}

// follow does one act to both, and fails where they answer otherwise.
func (x *both) follow(t *testing.T, a *acts) {
	t.Helper()
	same := func(call string, got, want api.Errno) {
		t.Helper()
		if got != want {
			t.Fatalf("%s: %v, not %v", call, got, want)
		}
	}
	page := func() int { return a.next()%(x.m.size+3) - 1 }
	switch n := a.next() % 32; {
	case n < 10:
		b := a.drawn()
		p, e := x.s.Take(b)
		q, f := x.m.take(b)
		if clear(b); p != q || e != f {
			t.Fatalf("Take of %d bytes: %d, %v, not %d, %v", len(b), p, e, q, f)
		}
	case n < 16:
		p := page()
		same("Give", x.s.Give(p), x.m.give(p))
	case n < 19:
		p := page()
		same("SetRoot", x.s.SetRoot(p), x.m.setRoot(p))
	case n < 22:
		if k, want := x.s.Mark(), x.m.mark(); k != want {
			t.Fatalf("Mark: %d, not %d", k, want)
		}
	case n < 25:
		k := a.next()%(len(x.m.marks)+3) - 1
		same("Back", x.s.Back(k), x.m.back(k))
	case n < 27:
		same("Commit", x.s.Commit(), x.m.commit(t, -1, nil))
	case n < 28:
		x.s.Abort()
		x.m.abort()
	case n < 29:
		x.power(a)
	case n < 30:
		x.anew(t)
	default:
		x.crash(t, a)
	}
}

// power takes the power away, or brings it again: nothing waits, so nothing is lost.
func (x *both) power(a *acts) {
	if x.m.off {
		x.d.Restart(a.fates())
	} else {
		x.d.Kill()
	}
	x.m.off = !x.m.off
}

// anew opens the store anew, and whatever was not committed is gone.
func (x *both) anew(t *testing.T) {
	t.Helper()
	if x.m.off {
		if s, e := store.Open(x.d); s != nil || e != api.ErrDead {
			t.Fatalf("Open of a dead disk: %v, %v", s, e)
		}
		return
	}
	x.s = open(t, x.d)
	x.m.reopen(t)
}

// crash commits, and the power may go meanwhile, and come again.
func (x *both) crash(t *testing.T, a *acts) {
	t.Helper()
	fuse, fates := a.next()%9, a.fates()
	off := x.m.off
	x.d.Fuse(fuse)
	got, want := x.s.Commit(), x.m.commit(t, fuse, fates)
	if got != want {
		t.Fatalf("Commit with a fuse of %d: %v, not %v", fuse, got, want)
	}
	if got != api.ErrDead {
		x.d.Fuse(-1)
		return
	}
	if !x.s.Dead() {
		t.Fatal("a Commit met a dead disk, and the store is not dead")
	}
	if off {
		return
	}
	x.d.Restart(fates)
	if a.next()%4 > 0 {
		x.anew(t)
	}
}

// alike fails where what is to be seen of the store, or of its disk, is not what is to be seen of the model.
func (x *both) alike(t *testing.T) {
	t.Helper()
	out := x.m.refuses()
	root, left := x.m.now.root, len(x.m.free())
	if out != api.OK {
		root, left = 0, 0
	}
	if x.s.Dead() != (out != api.OK) || x.s.Root() != root || x.s.Left() != left {
		t.Fatalf("Dead %v, Root %d, Left %d, not %v, %d, %d", x.s.Dead(), x.s.Root(), x.s.Left(), out != api.OK, root, left)
	}
	for p := -1; p <= x.m.size; p++ {
		b, e := x.s.Read(p)
		want, ok := x.m.now.pages[p]
		f := out
		if f == api.OK && !ok {
			f = api.ErrArg
		}
		if e != f || e == api.OK && string(b) != want || e != api.OK && len(b) != 0 {
			t.Fatalf("Read(%d): %.9q, %v, not %.9q, %v", p, b, e, want, f)
		}
	}
	if x.m.off {
		return
	}
	if w := x.d.Waits(); len(w) != 0 {
		t.Fatalf("%v wait", w)
	}
	for at, want := range x.m.pages {
		if !bytes.Equal(on(t, x.d, at), want) {
			t.Fatalf("page %d of the disk is another one", at)
		}
	}
}

// run does all that b says, to a store and to the model of it.
func run(t *testing.T, b []byte) {
	a := &acts{b}
	size := 4 + a.next()%9
	d, s := made(t, size)
	x := &both{d, s, newModel(size)}
	for len(a.b) > 0 {
		x.follow(t, a)
		x.alike(t)
	}
}

// P5.2 to P5.6, over runs of any acts, the store opened anew among them, and the power going at any write of a commit.
func TestAgainstTheModel(t *testing.T) {
	random := rand.New(rand.NewSource(5))
	for range 150 {
		b := make([]byte, 400)
		random.Read(b)
		run(t, b)
	}
}

// FuzzStore seeks acts by which a store is another one than the model of it.
func FuzzStore(f *testing.F) {
	f.Add([]byte{1, 0, 100, 'a', 16, 3, 25, 0, 100, 'b', 10, 3, 30, 2, 1, 50, 1})
	f.Add([]byte{3, 19, 0, 100, 'a', 19, 22, 1, 22, 2, 25})
	f.Fuzz(func(t *testing.T, b []byte) {
		if len(b) > 600 {
			b = b[:600]
		}
		run(t, b)
	})
}
