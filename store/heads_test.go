package store_test

import (
	"bytes"
	"encoding/binary"
	"fmt"
	"math"
	"slices"
	"testing"

	"quitrent/api"
	"quitrent/disk"
	"quitrent/store"
)

// P5.1, and what a head is.

// A head that was laid by hand is in force, on either page.
func TestHeadByHand(t *testing.T) {
	for _, size := range []int{4, 8, 9, 15, 16, 17, api.MaxPages} {
		for at := range 2 {
			d := newDisk(t, size)
			lay(t, d, 2, put(t, 2, 2, 5, []byte("a")))
			lay(t, d, size-1, put(t, size-1, 2, 3, []byte("z")))
			lay(t, d, at, put(t, at, 1, 77, says(size, uint64(size-1), 2, size-1)))
			s := open(t, d)
			looks(t, s, size, 0, size-1, held{2: "a", size - 1: "z"})
			gives(t, s, 2)
			commits(t, s) // the other one is written, of the next stamp
			headOf(t, d, at, 77, says(size, uint64(size-1), 2, size-1))
			headOf(t, d, 1-at, 78, says(size, uint64(size-1), size-1))
			looks(t, open(t, d), size, 0, size-1, held{size - 1: "z"})
		}
	}
}

// Of two heads the one of the greater stamp is in force: stamps are numbers, and not signed ones.
func TestHeadOfTheGreaterStamp(t *testing.T) {
	for _, c := range []struct{ less, more uint64 }{
		{1, 2}, {1, 1000}, {255, 256}, {1<<32 - 1, 1 << 32}, {math.MaxInt64, 1 << 63}, {1, math.MaxUint64 - 1}, {math.MaxUint64 - 2, math.MaxUint64 - 1},
	} {
		for at := range 2 {
			d := newDisk(t, 6)
			lay(t, d, 2, put(t, 2, 2, 1, []byte("a")))
			lay(t, d, 3, put(t, 3, 2, 1, []byte("b")))
			lay(t, d, 1-at, put(t, 1-at, 1, c.less, says(6, 3, 2, 3)))
			lay(t, d, at, put(t, at, 1, c.more, says(6, 2, 2)))
			s := open(t, d)
			looks(t, s, 6, 0, 2, held{2: "a"})
			takes(t, s, "c", 3)
			commits(t, s)
			headOf(t, d, 1-at, c.more+1, says(6, 2, 2, 3))
			headOf(t, d, at, c.more, says(6, 2, 2))
		}
	}
}

// noHeads are pages, of a disk of 12 pages, that are no heads at all, or say what may not be; each is of the stamp 50 as far as it is of any.
func noHeads(t *testing.T, at int) map[string][]byte {
	t.Helper()
	right := says(12, 2, 2)
	frame := put(t, at, 1, 50, right)
	spoilt := bytes.Clone(frame)
	spoilt[20] ^= 1
	all := map[string][]byte{
		"the other head's place": put(t, 1-at, 1, 50, right),
		"a page's place":         put(t, 2, 1, 50, right),
		"a page's kind":          put(t, at, 2, 50, right),
		"kind 0":                 put(t, at, 0, 50, right),
		"kind 3":                 put(t, at, 3, 50, right),
		"a byte is other":        spoilt,
		"torn, over bytes 0":     torn(make([]byte, api.Page), frame, 7),
		"torn, over an old one":  torn(put(t, at, 1, 49, right), frame, 7),
		"a sector of it":         torn(put(t, at, 1, 49, right), frame, 1),
	}
	for name, said := range map[string][]byte{
		"no bytes":                      nil,
		"a root alone":                  right[:8],
		"a byte fewer":                  right[:9],
		"a byte more":                   append(slices.Clone(right), 0),
		"many more":                     append(slices.Clone(right), make([]byte, 500)...),
		"all there is room for":         append(slices.Clone(right), make([]byte, api.Room-len(right))...),
		"fewer than a root":             right[:7],
		"bits ahead of the root":        slices.Concat(right[8:], right[:8]),
		"a root, the lowest byte first": slices.Concat([]byte{2, 0, 0, 0, 0, 0, 0, 0}, right[8:]),
		"bits, the highest first":       slices.Concat(right[:8], []byte{1 << 5, 0}),
		"a bit of head 0":               says(12, 2, 0, 2),
		"a bit of head 1":               says(12, 2, 1, 2),
		"bits of both heads":            says(12, 0, 0, 1),
		"the bit beyond the disk":       says(16, 2, 2, 12),
		"the last bit":                  says(16, 2, 2, 15),
		"a root that is free":           says(12, 3, 2),
		"a root where all is free":      says(12, 2),
		"a head as the root":            says(12, 1, 2),
		"a head as the root, taken":     says(12, 1, 1, 2),
		"a root beyond the disk":        says(12, 12, 2),
		"a root beyond, taken":          says(16, 12, 2, 12),
		"a root of 2^32 and 2":          says(12, 1<<32+2, 2),
		"a root of 2^63 and 2":          says(12, 1<<63+2, 2),
		"a root of 4096 and 2":          says(12, 4096+2, 2),
		"a root of -1":                  says(12, math.MaxUint64, 2),
		"a root of 2^63":                says(12, 1<<63, 2),
		"a root of 256 and 2":           says(12, 256+2, 2),
	} {
		all[name] = put(t, at, 1, 50, said)
	}
	return all
}

// Without a head in force a store is empty, and page 1 is written first; the stamp of what is no head counts all the same.
func TestNoHeadInForce(t *testing.T) {
	for at := range 2 {
		for name, page := range noHeads(t, at) {
			d := newDisk(t, 12)
			lay(t, d, 2, put(t, 2, 2, 1, []byte("a")))
			lay(t, d, at, page)
			s := open(t, d)
			looks(t, s, 12, 0, 0, nil)
			takes(t, s, "b", 2)
			roots(t, s, 2)
			commits(t, s)
			if t.Failed() {
				t.Fatalf("head %d: %s", at, name)
			}
			headOf(t, d, 1, 51, says(12, 2, 2))
			pageOf(t, d, 2, 51, "b")
			if at == 0 && !bytes.Equal(on(t, d, 0), page) {
				t.Errorf("%s: page 0 is written", name)
			}
			looks(t, open(t, d), 12, 0, 2, held{2: "b"})
		}
	}
}

// One that is in force stays it, beside what is no head, and that is what is written next.
func TestHeadInForceBesideNone(t *testing.T) {
	for at := range 2 {
		for name, page := range noHeads(t, at) {
			for _, stamp := range []uint64{9, 90} {
				d := newDisk(t, 12)
				lay(t, d, 3, put(t, 3, 2, 1, []byte("a")))
				lay(t, d, at, page)
				lay(t, d, 1-at, put(t, 1-at, 1, stamp, says(12, 3, 3)))
				s := open(t, d)
				looks(t, s, 12, 0, 3, held{3: "a"})
				takes(t, s, "b", 2)
				commits(t, s)
				if t.Failed() {
					t.Fatalf("head %d: %s, beside a stamp of %d", at, name, stamp)
				}
				headOf(t, d, at, max(stamp, 50)+1, says(12, 3, 2, 3))
				headOf(t, d, 1-at, stamp, says(12, 3, 3))
				looks(t, open(t, d), 12, 0, 3, held{2: "b", 3: "a"})
			}
		}
	}
}

func TestNeitherHeadInForce(t *testing.T) {
	zeros := noHeads(t, 0)
	for name, page := range noHeads(t, 1) {
		d := newDisk(t, 12)
		lay(t, d, 0, zeros[name])
		lay(t, d, 1, page)
		s := open(t, d)
		looks(t, s, 12, 0, 0, nil)
		roots(t, s, 0)
		commits(t, s)
		headOf(t, d, 1, 51, says(12, 0))
		if !bytes.Equal(on(t, d, 0), zeros[name]) {
			t.Errorf("%s: page 0 is written", name)
		}
	}
}

// A head may be that of a smaller disk, where the same bytes are wanted of both; one of a greater disk, whose last page is the root, may not.
func TestHeadOfADiskOfAnotherSize(t *testing.T) {
	for size := 4; size < 30; size++ {
		for _, n := range []int{4, 7, 8, 9, 16, 17, 24, 25} {
			d := newDisk(t, n)
			lay(t, d, 1, put(t, 1, 1, 1, says(size, uint64(size-1), size-1)))
			want := 0
			if size <= n && (size+7)/8 == (n+7)/8 {
				want = size - 1
			}
			if got := open(t, d).Root(); got != want {
				t.Errorf("a head of a disk of %d pages on one of %d: the root is %d", size, n, got)
			}
		}
	}
}

// All the bits that a byte of a head may have, one by one, on disks of all sizes about a byte's end.
func TestEachBitOfAHead(t *testing.T) {
	for size := 4; size <= 17; size++ {
		for p := range (size + 7) / 8 * 8 {
			d := newDisk(t, size)
			said := says(size, 0)
			said[8+p/8] |= 1 << (p % 8)
			lay(t, d, 1, put(t, 1, 1, 1, said))
			want := size - 2
			if p >= 2 && p < size {
				want--
			}
			if got := open(t, d).Left(); got != want {
				t.Errorf("bit %d on a disk of %d pages: %d are left, not %d", p, size, got, want)
			}
		}
	}
}

// stamped is page, of no frame, sector s of which begins with that number.
func stamped(s int, stamp uint64) []byte {
	page := bytes.Repeat([]byte{3}, api.Page)
	for i := range 8 {
		copy(page[i*api.Sector:], []byte{0, 0, 0, 0, 0, 0, 0, 4})
	}
	binary.BigEndian.PutUint64(page[s*api.Sector:], stamp)
	return page
}

// The greatest number that a sector of the heads begins with counts, of a head that is whole or not.
func TestNextStampOfAnySector(t *testing.T) {
	for at := range 2 {
		for sector := range 8 {
			for _, stamp := range []uint64{5, 255, 1 << 40, math.MaxInt64, 1 << 63, math.MaxUint64 - 1} {
				d := newDisk(t, 5)
				lay(t, d, at, stamped(sector, stamp))
				lay(t, d, 1-at, put(t, 1-at, 1, 3, says(5, 0, 4)))
				s := open(t, d)
				takes(t, s, "a", 2)
				commits(t, s)
				headOf(t, d, at, stamp+1, says(5, 0, 2, 4))
				pageOf(t, d, 2, stamp+1, "a")
			}
		}
	}
}

// broken fails where d's store is opened, though no stamp comes next.
func broken(t *testing.T, name string, d *disk.Disk) {
	t.Helper()
	writesNothing(t, name, d, func() {
		if s, e := store.Open(d); s != nil || e != api.ErrBroken {
			t.Errorf("%s: %v, %v, not ErrBroken", name, s, e)
		}
	})
}

func TestNoNextStamp(t *testing.T) {
	for at := range 2 {
		for sector := range 8 {
			d := newDisk(t, 4)
			lay(t, d, at, stamped(sector, math.MaxUint64))
			broken(t, fmt.Sprintf("sector %d of head %d", sector, at), d)
			lay(t, d, 1-at, put(t, 1-at, 1, 3, says(4, 0))) // beside one that would be in force
			broken(t, fmt.Sprintf("sector %d of head %d, beside a head", sector, at), d)
		}
		d := newDisk(t, 4)
		lay(t, d, at, put(t, at, 1, math.MaxUint64, says(4, 0)))
		broken(t, "a head that is whole", d)
		lay(t, d, at, put(t, at, 1, math.MaxUint64, nil))
		broken(t, "a head that says what may not be", d)
	}
}

// The last stamp is written, and none behind it.
func TestLastStamp(t *testing.T) {
	for at := range 2 {
		d := newDisk(t, 6)
		lay(t, d, at, put(t, at, 1, math.MaxUint64-1, says(6, 0)))
		s := open(t, d)
		takes(t, s, "a", 2)
		commits(t, s)
		headOf(t, d, 1-at, math.MaxUint64, says(6, 0, 2))
		pageOf(t, d, 2, math.MaxUint64, "a")
		looks(t, s, 6, 0, 0, held{2: "a"})

		writesNothing(t, "Commit without a next stamp", d, func() {
			commits(t, s) // of nothing
			takes(t, s, "b", 3)
			answers(t, "Commit without a next stamp", s.Commit(), api.ErrBroken)
			if s.Dead() {
				t.Error("a Commit without a next stamp: it is dead")
			}
			s.Abort()
			looks(t, s, 6, 0, 0, held{2: "a"})
			commits(t, s)
		})
		broken(t, "a disk with the last stamp", d)
	}
}

// A head is torn, and written again: its next stamp is above what is left of it, and so no mix of the two is whole.
func TestTornHeadIsWrittenAgain(t *testing.T) {
	for sectors := 1; sectors < 8; sectors++ {
		d, s := made(t, 6)
		takes(t, s, "a", 2)
		roots(t, s, 2)
		commits(t, s) // head 1, of 1
		takes(t, s, "b", 3)
		commits(t, s) // head 0, of 2
		for _, b := range []string{"c", "d"} {
			takes(t, s, b, 4)
			roots(t, s, 4)
			gives(t, s, 2)
			d.Fuse(2)
			answers(t, "Commit", s.Commit(), api.ErrDead)
			d.Restart([]int{255 >> sectors})
			s = open(t, d)
			looks(t, s, 6, 0, 2, held{2: "a", 3: "b"})
		}
		takes(t, s, "e", 4)
		commits(t, s)
		headOf(t, d, 1, 5, says(6, 2, 2, 3, 4)) // 3 and 4 were torn
		looks(t, open(t, d), 6, 0, 2, held{2: "a", 3: "b", 4: "e"})
	}
}
