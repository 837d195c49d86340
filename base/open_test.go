package base_test

import (
	"encoding/binary"
	"math"
	"slices"
	"strconv"
	"testing"

	"quitrent/api"
	"quitrent/base"
	"quitrent/disk"
	"quitrent/frame"
)

// P7.1: Open, Dead.

func TestOpenWhatMayNotBe(t *testing.T) {
	opensNot(t, "nil", nil, api.ErrNil)
	opensNot(t, "no disk at all", &disk.Disk{}, api.ErrArg)
	for _, pages := range []int{1, 2, 3} {
		opensNot(t, strconv.Itoa(pages)+" pages", newDisk(t, pages), api.ErrArg)
	}
	for _, pages := range []int{1, 3, 4, 30} {
		name := "a dead disk of " + strconv.Itoa(pages) + " pages"
		d := newDisk(t, pages)
		d.Kill()
		opensNot(t, name, d, api.ErrDead)
		opensNot(t, name+", again", d, api.ErrDead)
		d.Restart(nil)
		d.Fuse(0)
		d.Flush()
		opensNot(t, name+", by its fuse", d, api.ErrDead)
	}
}

func TestOpenNew(t *testing.T) {
	for _, pages := range []int{4, 5, 30, api.MaxPages} {
		d, b := made(t, pages)
		pairs{}.looks(t, b)
		if b.Left() != pages-2 {
			t.Errorf("of %d pages %d are left", pages, b.Left())
		}
		m := pairs{}
		m.put(t, b, "a", "1")
		commits(t, b)
		m.looks(t, open(t, d))
	}
}

// One that was dead, and has power again, is as any other one.
func TestOpenBehindRestart(t *testing.T) {
	d, b := made(t, 8)
	m := pairs{}
	m.put(t, b, "a", "1")
	commits(t, b)
	d.Kill()
	opensNot(t, "a dead disk", d, api.ErrDead)
	d.Restart([]int{255, 255})
	m.looks(t, open(t, d))
}

func TestOpenWritesNothing(t *testing.T) {
	d, b := made(t, 12)
	for i := range 4 {
		writesNothing(t, "Open", d, func() {
			open(t, d)
			open(t, d)
		})
		pairs{}.put(t, b, strconv.Itoa(i), "v")
		commits(t, b)
	}
}

// Open of a disk twice: each of these is what was committed, at its time, and nothing of what another one did.
func TestOpenTwice(t *testing.T) {
	d, a := made(t, 30)
	m := pairs{}
	b := open(t, d)
	m.put(t, a, "a", "1")
	pairs{}.looks(t, b)
	pairs{}.looks(t, open(t, d))
	commits(t, a)
	was := pairs{"a": "1"}
	b, c := open(t, d), open(t, d)
	m.put(t, a, "b", "2")
	m.remove(t, a, "a")
	was.looks(t, b)
	c.Abort()
	was.looks(t, c)
	writesNothing(t, "Commit of nothing", d, func() { commits(t, b) })
	m.looks(t, a)
	a.Abort()
	was.looks(t, a)
	was.looks(t, open(t, d))
}

const headsSize = 12

// headsOf is a disk on which so many transactions are committed, and what was there behind each of them.
func headsOf(t testing.TB, n int) (*disk.Disk, []pairs) {
	t.Helper()
	d, b := made(t, headsSize)
	was := []pairs{{}}
	m := pairs{}
	for i := range n {
		m.put(t, b, "k"+strconv.Itoa(i), strconv.Itoa(n))
		commits(t, b)
		was = append(was, all(t, b))
	}
	return d, was
}

// inForce is the head that the n-th transaction wrote.
func inForce(n int) int { return n % 2 }

// goesOn fails where d's base is not m, or can't be gone on with.
func goesOn(t testing.TB, d *disk.Disk, m pairs) {
	t.Helper()
	b := open(t, d)
	m.looks(t, b)
	m.put(t, b, "behind", "it")
	commits(t, b)
	m.looks(t, b)
	m.looks(t, open(t, d))
	delete(m, "behind")
}

// Of a head that is torn nothing is in force: so it is what was ahead of it, if the other one is whole.
func TestOpenTornHeads(t *testing.T) {
	for n := 1; n <= 4; n++ {
		d, was := headsOf(t, n)
		kept := lasting(t, d)
		h := inForce(n)
		for _, by := range [][]byte{make([]byte, api.Page), kept[1-h], slices.Repeat([]byte{0x5a}, api.Page)} {
			for sector := range api.Page / api.Sector {
				from, to := sector*api.Sector, (sector+1)*api.Sector
				torn := slices.Concat(kept[h][:from], by[from:to], kept[h][to:])
				relay(t, d, kept)
				lay(t, d, h, torn)
				goesOn(t, d, was[n-1])

				relay(t, d, kept)
				lay(t, d, 1-h, torn) // nor is it whole at another place
				goesOn(t, d, was[n])

				relay(t, d, kept)
				lay(t, d, h, torn)
				lay(t, d, 1-h, torn)
				goesOn(t, d, pairs{})
			}
		}
	}
}

// says is the bytes of a head on a disk of size pages (chapter 5), whether they may be said or not.
func says(size int, root uint64, taken ...int) []byte {
	b := binary.BigEndian.AppendUint64(nil, root)
	bits := make([]byte, (size+7)/8)
	for _, p := range taken {
		bits[p/8] |= 1 << (p % 8)
	}
	return append(b, bits...)
}

// put is a frame.
func put(t testing.TB, at int, kind uint8, stamp uint64, b []byte) []byte {
	t.Helper()
	page, e := frame.Put(at, kind, stamp, b)
	answers(t, "frame.Put", e, api.OK)
	return page
}

// Nor is one in force that says what may not be, however new it is.
func TestOpenHeadsThatSayWhatMayNotBe(t *testing.T) {
	right := says(headsSize, 2, 2)
	for name, b := range map[string][]byte{
		"a root that is not taken":  says(headsSize, 5, 2, 3),
		"a root that is a head":     says(headsSize, 1, 2, 3),
		"a root beyond":             says(headsSize, headsSize, 2, 3),
		"a root far beyond":         says(headsSize, 1<<63+2, 2, 3),
		"a head that is taken":      says(headsSize, 2, 0, 2),
		"the other one":             says(headsSize, 2, 1, 2),
		"a page beyond":             says(headsSize, 2, 2, headsSize),
		"the last bit":              says(headsSize, 2, 2, 15),
		"fewer bytes":               right[:len(right)-1],
		"more bytes":                append(right[:len(right):len(right)], 0),
		"no bytes":                  nil,
		"those of a greater disk":   says(headsSize+8, 2, 2),
		"as many as there may be":   make([]byte, api.Room),
		"no pages' bits":            right[:8],
		"a root that is cut in two": right[:4],
	} {
		t.Run(name, func(t *testing.T) {
			for n := 1; n <= 3; n++ {
				d, was := headsOf(t, n)
				h := inForce(n)
				kept := lasting(t, d)
				for stamp := uint64(1); stamp < 9; stamp++ {
					relay(t, d, kept)
					lay(t, d, 1-h, put(t, 1-h, 1, stamp, b))
					goesOn(t, d, was[n])
					relay(t, d, kept)
					lay(t, d, h, put(t, h, 1, stamp, b))
					goesOn(t, d, was[n-1])
				}
				relay(t, d, kept)
				lay(t, d, 0, put(t, 0, 1, 7, b))
				lay(t, d, 1, put(t, 1, 1, 8, b))
				goesOn(t, d, pairs{})
			}
		})
	}
	d, was := headsOf(t, 2)
	lay(t, d, 1, put(t, 1, 2, 9, says(headsSize, 0))) // of the kind of other pages
	goesOn(t, d, was[2])
	lay(t, d, 1, put(t, 0, 1, 9, says(headsSize, 0))) // of the other one's place
	goesOn(t, d, was[2])
	lay(t, d, 1, put(t, 1, 1, 9, says(headsSize, 0))) // and so nothing is wrong: it is one without pairs
	goesOn(t, d, pairs{})
}

// stamped is page with a sector that begins with that stamp.
func stamped(page []byte, sector int, stamp uint64) []byte {
	b := slices.Clone(page)
	binary.BigEndian.PutUint64(b[sector*api.Sector:], stamp)
	return b
}

// A base that could never commit anything is ErrBroken, also where just one sector of a torn head tells that.
func TestOpenBehindTheLastStamp(t *testing.T) {
	for n := range 3 {
		d, was := headsOf(t, n)
		kept := lasting(t, d)
		for h := range 2 {
			for sector := range api.Page / api.Sector {
				relay(t, d, kept)
				lay(t, d, h, stamped(kept[h], sector, math.MaxUint64))
				opensNot(t, "the last stamp", d, api.ErrBroken)
				writesNothing(t, "Open", d, func() { opensNot(t, "the last stamp", d, api.ErrBroken) })

				relay(t, d, kept)
				lay(t, d, h, stamped(kept[h], sector, math.MaxUint64-1))
				m := was[n]
				if n > 0 && h == inForce(n) {
					m = was[n-1]
				}
				lastCommit(t, d, m)
			}
		}
	}
}

// lastCommit fails where d's base, which is m, can commit anything but one transaction.
func lastCommit(t *testing.T, d *disk.Disk, m pairs) {
	t.Helper()
	b := open(t, d)
	m.looks(t, b)
	m.put(t, b, "the last", "one")
	commits(t, b)
	m.looks(t, b)
	opensNot(t, "the last stamp", d, api.ErrBroken)
	answers(t, "Put", b.Put([]byte("one"), []byte("more")), api.OK)
	writesNothing(t, "Commit behind the last stamp", d, func() { answers(t, "Commit", b.Commit(), api.ErrBroken) })
	b.Abort()
	m.looks(t, b)
	delete(m, "the last")
}

func TestDead(t *testing.T) {
	dead(t, "of nil", nil, false)
	dead(t, "of one that Open did not make", &base.Base{}, false)

	d, b := made(t, 8)
	other := open(t, d)
	m := pairs{}
	m.put(t, b, "a", "1")
	dead(t, "of a living one", b, false)
	commits(t, b)
	dead(t, "behind a Commit", b, false)

	d.Kill()
	dead(t, "behind Kill", b, true)
	dead(t, "of another one of that disk", other, true)
	d.Restart(nil)
	dead(t, "that met no Commit, with power again", b, false)
	m.looks(t, b)
	m.put(t, b, "b", "2") // it goes on
	commits(t, b)

	m.put(t, b, "c", "3")
	d.Fuse(1)
	answers(t, "Commit", b.Commit(), api.ErrDead)
	dead(t, "behind a Commit that met it", b, true)
	d.Restart([]int{255})
	dead(t, "for good", b, true)
	refusals(t, "dead for good", b, api.ErrDead)
	dead(t, "still, behind all these calls", b, true)
	dead(t, "of another one of that disk, with power again", other, false)
	delete(m, "c")
	m.looks(t, open(t, d))
	dead(t, "when a new one is opened", b, true)
}

// A Commit met it, too, if the disk was dead ahead of it, and if there was nothing to commit.
func TestDeadByACommitOfNothing(t *testing.T) {
	for _, act := range []func(b *base.Base){
		func(*base.Base) {},
		func(b *base.Base) { b.Put([]byte("b"), []byte("2")) },
	} {
		d, b := made(t, 8)
		m := pairs{}
		m.put(t, b, "a", "1")
		commits(t, b)
		act(b)
		d.Kill()
		answers(t, "Commit", b.Commit(), api.ErrDead)
		b.Abort()
		d.Restart(nil)
		dead(t, "for good", b, true)
		refusals(t, "dead for good", b, api.ErrDead)
		m.looks(t, open(t, d))
	}
}
