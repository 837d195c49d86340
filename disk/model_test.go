package disk_test

import (
	"bytes"
	"math"
	"math/rand"
	"slices"
	"testing"

	"quitrent/api"
	"quitrent/disk"
)

// side is a sector's bytes as the model keeps them: all of one byte.
type side = byte

// waiting is a page that waits.
type waiting struct {
	at int
	b  [8]side
}

// model is a disk as the chapter's Words tell it, sector by sector, without a map and without memory to share.
type model struct {
	lasts   [][8]side
	waits   []waiting
	dead    bool
	fuse    int // below 0: none
	flushed [][8]side
	written []map[side]bool // of each page, all that a sector of it may be
}

func newModel(pages int) *model {
	m := &model{lasts: make([][8]side, pages), fuse: -1, flushed: make([][8]side, pages)}
	for range pages {
		m.written = append(m.written, map[side]bool{0: true})
	}
	return m
}

// goes tells whether the power goes under way of this call.
func (m *model) goes() bool {
	if m.fuse == 0 {
		m.dead = true
		return true
	}
	if m.fuse > 0 {
		m.fuse--
	}
	return false
}

func (m *model) read(at int) ([8]side, api.Errno) {
	if m.dead {
		return [8]side{}, api.ErrDead
	}
	if at < 0 || at >= len(m.lasts) {
		return [8]side{}, api.ErrArg
	}
	for _, w := range m.waits {
		if w.at == at {
			return w.b, api.OK
		}
	}
	return m.lasts[at], api.OK
}

func (m *model) write(at int, b [8]side, whole bool) api.Errno {
	if m.dead {
		return api.ErrDead
	}
	if at < 0 || at >= len(m.lasts) || !whole {
		return api.ErrArg
	}
	for _, c := range b {
		m.written[at][c] = true
	}
	i := slices.IndexFunc(m.waits, func(w waiting) bool { return w.at == at })
	if i < 0 {
		m.waits = append(m.waits, waiting{at, b})
	} else {
		m.waits[i].b = b
	}
	if m.goes() {
		return api.ErrDead
	}
	return api.OK
}

func (m *model) flush() api.Errno {
	if m.dead || m.goes() {
		return api.ErrDead
	}
	for _, w := range m.waits {
		m.lasts[w.at] = w.b
	}
	m.waits = nil
	m.flushed = slices.Clone(m.lasts)
	return api.OK
}

func (m *model) setFuse(n int) {
	if !m.dead {
		m.fuse = max(n, -1)
	}
}

func (m *model) restart(fates []int) {
	for k, w := range m.waits {
		for s := range 8 {
			if k < len(fates) && uint(fates[k])&(1<<s) != 0 {
				m.lasts[w.at][s] = w.b[s]
			}
		}
	}
	m.waits, m.dead, m.fuse = nil, false, -1
	m.flushed = slices.Clone(m.lasts)
}

// order is the pages that wait.
func (m *model) order() []int {
	var at []int
	for _, w := range m.waits {
		at = append(at, w.at)
	}
	return at
}

// acts hands out numbers that say what is done: of bytes, or 0 behind their end.
type acts struct{ b []byte }

func (a *acts) next() int {
	if len(a.b) == 0 {
		return 0
	}
	n := a.b[0]
	a.b = a.b[1:]
	return int(n)
}

// drawn is a page of eight sectors, each of a byte of its own.
func (a *acts) drawn() (b [8]side) {
	first := a.next()
	for s := range b {
		b[s] = side(first + s*37)
	}
	return b
}

// drawnFates are some of them, with bits of all kinds.
func (a *acts) drawnFates() []int {
	var fates []int
	for range a.next() % 6 {
		n := a.next()
		switch a.next() % 4 {
		case 1:
			n |= 1 << 8
		case 2:
			n = ^n
		case 3:
			n |= math.MinInt
		}
		fates = append(fates, n)
	}
	return fates
}

// follow does one act to both, and fails where they differ.
func follow(t *testing.T, d *disk.Disk, m *model, a *acts) {
	t.Helper()
	size := len(m.lasts)
	switch n := a.next() % 16; n {
	default: // a write is the most usual
		at, b := a.next()%size, a.drawn()
		if got, want := d.Write(at, mixed(b[:]...)), m.write(at, b, true); got != want {
			t.Fatalf("Write(%d): %v, not %v", at, got, want)
		}
	case 0, 1, 2:
		if got, want := d.Flush(), m.flush(); got != want {
			t.Fatalf("Flush: %v, not %v", got, want)
		}
	case 3:
		at := a.next()%(size+2) - 1
		b, bytes := a.drawn(), a.next()%3*(api.Page/2)
		if got, want := d.Write(at, append(mixed(b[:]...), page(0)...)[:bytes]), m.write(at, b, bytes == api.Page); got != want {
			t.Fatalf("Write(%d) of %d bytes: %v, not %v", at, bytes, got, want)
		}
	case 4, 5:
		n := a.next()%8 - 1
		d.Fuse(n)
		m.setFuse(n)
	case 6:
		d.Kill()
		m.dead = true
	case 7, 8, 9:
		fates := a.drawnFates()
		d.Restart(fates)
		m.restart(fates)
	}
}

// alike fails where what is to be seen of d is not what is to be seen of m.
func alike(t *testing.T, d *disk.Disk, m *model) {
	t.Helper()
	if d.Dead() != m.dead || d.Size() != len(m.lasts) || !slices.Equal(d.Waits(), m.order()) {
		t.Fatalf("Dead %v, Size %d, Waits %v, not %v, %d, %v", d.Dead(), d.Size(), d.Waits(), m.dead, len(m.lasts), m.order())
	}
	for at := -1; at <= len(m.lasts); at++ {
		got, e := d.Read(at)
		want, f := m.read(at)
		if e != f || e != api.OK && got != nil || e == api.OK && !bytes.Equal(got, mixed(want[:]...)) {
			t.Fatalf("Read(%d): %q, %v, not %q, %v", at, told(got), e, want, f)
		}
	}
}

// lasting fails where P3.5 does not hold of d as its power would come again: a sector of a page that does not wait is as it was flushed, and each one was written, or is 0.
func lasting(t *testing.T, d *disk.Disk, m *model) {
	t.Helper()
	held := map[int]bool{}
	for _, at := range d.Waits() {
		held[at] = true
	}
	for at := range m.lasts {
		b, e := d.Read(at)
		if e != api.OK {
			return // dead: it is looked at when it has power
		}
		for s := range 8 {
			part := b[s*api.Sector : (s+1)*api.Sector]
			if !bytes.Equal(part, bytes.Repeat(part[:1], api.Sector)) || !m.written[at][part[0]] {
				t.Fatalf("sector %d of page %d was never written so: %x", s, at, part)
			}
			if !held[at] && part[0] != m.flushed[at][s] {
				t.Fatalf("sector %d of page %d is %x, and was flushed as %x", s, at, part[0], m.flushed[at][s])
			}
		}
	}
}

// run does all that b says, to a disk and to the model of it.
func run(t *testing.T, b []byte) {
	a := &acts{b}
	size := 1 + a.next()%5
	d, m := newDisk(t, size), newModel(size)
	for len(a.b) > 0 {
		follow(t, d, m, a)
		alike(t, d, m)
		lasting(t, d, m)
	}
}

// P3.2 to P3.5, over runs of any acts.
func TestAgainstTheModel(t *testing.T) {
	random := rand.New(rand.NewSource(3))
	for range 150 {
		b := make([]byte, 400)
		random.Read(b)
		run(t, b)
	}
}

// P3.5: what was flushed lasts, whatever is written elsewhere and whatever fates there are, until it is written again.
func TestWhatWasFlushedLasts(t *testing.T) {
	random := rand.New(rand.NewSource(4))
	d := newDisk(t, 8)
	kept := mixed('1', '2', '3', '4', '5', '6', '7', '8')
	write(t, d, 3, kept)
	flush(t, d)
	for range 200 {
		d.Fuse(random.Intn(12))
		for range 10 {
			at := random.Intn(7)
			if at >= 3 {
				at++
			}
			d.Write(at, page(byte(random.Intn(256))))
			if random.Intn(4) == 0 {
				d.Flush()
			}
		}
		d.Restart([]int{random.Int(), -random.Int(), -1})
		reads(t, d, 3, kept)
	}
	write(t, d, 3, page('x'))
	d.Restart([]int{1 << 7})
	reads(t, d, 3, mixed('1', '2', '3', '4', '5', '6', '7', 'x'))
}

// FuzzDisk does any acts to a disk and to the model.
func FuzzDisk(f *testing.F) {
	f.Add([]byte{2, 10, 1, 'a', 7, 1, 255, 0})
	f.Add([]byte{2, 4, 2, 10, 0, 'a', 10, 1, 'b', 7, 2, 0, 0, 255, 0})
	f.Fuzz(func(t *testing.T, b []byte) {
		if len(b) > 1000 {
			b = b[:1000]
		}
		run(t, b)
	})
}
