package frame_test

import (
	"bytes"
	"encoding/binary"
	"math"
	"math/rand"
	"slices"
	"testing"

	"quitrent/api"
	"quitrent/frame"
)

// P4.4: what follows.

// nowhereWhole fails where page is whole as that of the place and kind that it says, or of those that it had.
func nowhereWhole(t *testing.T, name string, page []byte, at int, kind uint8) {
	t.Helper()
	isNotWhole(t, name, page, at, kind)
	if said, as := int(binary.BigEndian.Uint64(page[8:])), page[16]; said != at || as != kind {
		isNotWhole(t, name, page, said, as)
	}
}

func TestWholeAtItsOwnPlaceAlone(t *testing.T) {
	for _, at := range []int{0, 2048, api.MaxPages - 1} {
		page := put(t, at, 1, 9, []byte("ab"))
		for other := -2; other < api.MaxPages+2; other++ {
			if b, stamp, ok := frame.Get(page, other, 1); ok != (other == at) || ok && (string(b) != "ab" || stamp != 9) {
				t.Fatalf("a frame of %d at %d: %q, %d, %v", at, other, b, stamp, ok)
			}
		}
	}
}

func TestWholeAsItsOwnKindAlone(t *testing.T) {
	for _, kind := range []uint8{0, 1, 2, 255} {
		page := put(t, 5, kind, 9, []byte("ab"))
		for other := range 256 {
			if _, _, ok := frame.Get(page, 5, uint8(other)); ok != (uint8(other) == kind) {
				t.Errorf("a frame of kind %d, as %d: %v", kind, other, ok)
			}
		}
	}
}

// mixed is a page whose sectors are b's, where a bit of which is 1, and else a's.
func mixed(a, b []byte, which int) []byte {
	page := slices.Clone(a)
	for s := range sectors {
		if which>>s&1 == 1 {
			copy(page[512*s:512*(s+1)], b[512*s:])
		}
	}
	return page
}

// All ways to lay sectors of two frames into one page, the bytes that they hold alike or not.
func TestSectorsOfTwoFrames(t *testing.T) {
	held := [][]byte{nil, []byte("ab"), pattern(api.Room), make([]byte, api.Room)}
	for n, two := range [][2]uint64{{9, 10}, {2, 1}, {255, 256}, {1, 1 << 63}, {math.MaxUint64 - 1, math.MaxUint64}, {7, 1<<32 | 7}} {
		for i, b := range held {
			c := held[(i+n)%len(held)]
			first, second := put(t, 5, 1, two[0], b), put(t, 5, 1, two[1], c)
			for which := 1; which < 255; which++ {
				page := mixed(first, second, which)
				nowhereWhole(t, "sectors of two frames", page, 5, 1)
				newest(t, page, max(two[0], two[1]))
			}
			isWhole(t, mixed(first, second, 0), 5, 1, two[0], b)
			isWhole(t, mixed(first, second, 255), 5, 1, two[1], c)
		}
	}
}

// Nor are sectors of frames of other places and kinds.
func TestSectorsOfFramesOfElsewhere(t *testing.T) {
	first, second := put(t, 5, 1, 9, pattern(3000)), put(t, 6, 2, 10, pattern(2000))
	for which := 1; which < 255; which++ {
		page := mixed(first, second, which)
		nowhereWhole(t, "sectors of two frames", page, 5, 1)
		nowhereWhole(t, "sectors of two frames", page, 6, 2)
	}
}

// A frame's sectors on a page that was never written, or of those that stood there, are not whole either.
func TestSectorsOverBytes0(t *testing.T) {
	page, none := put(t, 5, 1, 9, pattern(600)), make([]byte, api.Page)
	for which := range 255 {
		nowhereWhole(t, "sectors over bytes 0", mixed(none, page, which), 5, 1)
	}
}

// changed is page with these four bytes at that place.
func changed(page []byte, at int, four ...byte) []byte {
	page = slices.Clone(page)
	copy(page[at:at+4], four)
	return page
}

// Four bytes one behind the other, at every place of a page: so across the seams of the stamps, the sectors, the count, what is held, and the check, too.
func TestFourBytes(t *testing.T) {
	random := rand.New(rand.NewSource(44))
	for _, n := range []int{2, 1500, api.Room} {
		page := put(t, 5, 1, 9, pattern(n))
		for at := range api.Page - 3 {
			was := page[at : at+4]
			for _, turn := range []uint32{math.MaxUint32, 1 << random.Intn(32), 1<<31 | 1, max(1, random.Uint32())} {
				four := binary.LittleEndian.AppendUint32(nil, binary.LittleEndian.Uint32(was)^turn)
				nowhereWhole(t, "four bytes are others", changed(page, at, four...), 5, 1)
			}
		}
		isWhole(t, page, 5, 1, 9, pattern(n))
	}
}

// The same, where what became of them is of a kind that is easily taken for right: bytes 0, or those of another place.
func TestFourBytesThatStandElsewhere(t *testing.T) {
	page := put(t, 5, 1, 0x0a0b0c0d0e0f1011, pattern(1500))
	for at := range api.Page - 3 {
		from := (at + 512) % (api.Page - 3)
		for _, four := range [][]byte{{0, 0, 0, 0}, {255, 255, 255, 255}, page[from : from+4], page[4092:]} {
			if !bytes.Equal(four, page[at:at+4]) {
				nowhereWhole(t, "four bytes are others", changed(page, at, four...), 5, 1)
			}
		}
	}
}

// Across the seam of what a frame holds and its check, many ways: the check's bytes stand in its own order.
func TestFourBytesAtTheCheck(t *testing.T) {
	random := rand.New(rand.NewSource(45))
	for _, n := range []int{0, 2, api.Room} {
		page := put(t, 5, 1, 9, pattern(n))
		for at := api.Page - 11; at <= api.Page-4; at++ {
			for range 500 {
				four := binary.LittleEndian.AppendUint32(nil, random.Uint32())
				if !bytes.Equal(four, page[at:at+4]) {
					nowhereWhole(t, "four bytes are others", changed(page, at, four...), 5, 1)
				}
			}
		}
	}
}

func TestOneByte(t *testing.T) {
	random := rand.New(rand.NewSource(46))
	page := put(t, 5, 1, 9, pattern(1500))
	for at := range api.Page {
		kept := page[at]
		for _, turn := range []byte{1, 128, 255, byte(1 + random.Intn(255))} {
			page[at] = kept ^ turn
			nowhereWhole(t, "a byte is another one", page, 5, 1)
		}
		page[at] = kept
	}
	isWhole(t, page, 5, 1, 9, pattern(1500))
}

// acts hands out numbers that say what is done: of bytes, or 0 behind their end.
type acts struct{ b []byte }

func (a *acts) next() int {
	if len(a.b) == 0 {
		return 0
	}
	n := a.b[0]
	a.b = a.b[1:]
	return int(n)
}

// drawn is something to be put, mostly what may be, and otherwise only little beside it.
func (a *acts) drawn() (at int, kind uint8, stamp uint64, b []byte) {
	all := slices.Concat(places(), places(), noPlaces())
	at = all[a.next()%len(all)]
	kind = uint8(a.next())
	stamp = append(stamps(), 0)[a.next()%(len(stamps())+1)]
	n := a.next()%17*256 + a.next()
	b = pattern(min(n, api.Room+2))
	if len(b) > 0 {
		b[a.next()*16%len(b)] = byte(a.next())
	}
	return at, kind, stamp, b
}

// spoil makes some bytes of page others, and the check right again, if it is told to.
func (a *acts) spoil(page []byte) {
	for range a.next() % 4 {
		at := (a.next()*256 + a.next()) % len(page)
		if a.next()%2 == 0 {
			at = (at%sectors*api.Sector + at%40) % len(page) // the stamps, and what stands ahead of what is held
		}
		page[at] ^= byte(a.next())
	}
	if a.next()%2 == 0 {
		inside, marks := taken(page)
		f := form{stamp: marks[0], at: binary.BigEndian.Uint64(inside), kind: inside[8], count: binary.BigEndian.Uint64(inside[9:]), b: inside[headSize:sumAt]}
		binary.LittleEndian.PutUint32(page[4092:], f.sum())
	}
}

// run puts what b says, spoils it, and holds what is answered against the book.
func run(t *testing.T, b []byte) {
	a := &acts{b}
	at, kind, stamp, held := a.drawn()
	want := api.OK
	if at < 0 || at > 4095 || stamp == 0 {
		want = api.ErrArg
	} else if len(held) > 4011 {
		want = api.ErrLong
	}
	page, e := frame.Put(at, kind, stamp, held)
	if e != want || e != api.OK && len(page) != 0 {
		t.Fatalf("Put(%d, %d, %d, %d bytes): %d bytes, %v, not %v", at, kind, stamp, len(held), len(page), e, want)
	}
	if e != api.OK {
		return
	}
	if !bytes.Equal(page, of(at, kind, stamp, held).page()) {
		t.Fatalf("Put(%d, %d, %d, %x): another frame", at, kind, stamp, held)
	}
	a.spoil(page)
	inside, marks := taken(page)
	newest(t, page, slices.Max(marks))
	for _, at := range []int{at, int(binary.BigEndian.Uint64(inside))} {
		for _, kind := range []uint8{kind, inside[8]} {
			if wholeByTheBook(page, at, kind) {
				count := binary.BigEndian.Uint64(inside[9:])
				isWhole(t, page, at, kind, marks[0], inside[headSize:headSize+count])
			} else {
				isNotWhole(t, "by the book", page, at, kind)
			}
		}
	}
}

// P4.1 to P4.4, of any frames that are spoilt anyhow.
func TestByTheBook(t *testing.T) {
	random := rand.New(rand.NewSource(47))
	for range 6000 {
		b := make([]byte, 30)
		random.Read(b)
		run(t, b)
	}
}

// FuzzFrame seeks a frame, spoilt anyhow, that is answered otherwise than by the book.
func FuzzFrame(f *testing.F) {
	f.Add([]byte{})
	f.Add([]byte{2, 1, 2, 0, 2, 0, 'a', 1, 0, 8, 0, 3, 0})
	f.Fuzz(func(t *testing.T, b []byte) { run(t, b) })
}
