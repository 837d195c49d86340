package frame_test

import (
	"bytes"
	"encoding/binary"
	"encoding/hex"
	"math"
	"math/rand"
	"slices"
	"testing"

	"quitrent/api"
	"quitrent/frame"
)

// sizes are those of bytes that a frame holds: none, few, those that end just where a sector's inside does, one less, one further, and as many as there is room for.
func sizes() []int {
	all := []int{0, 1, 2, 100, api.Room - 1, api.Room}
	for s := 1; s < sectors; s++ {
		end := s*insideSize - headSize
		all = append(all, end-1, end, end+1)
	}
	return all
}

// places that may be, and those that may not.
func places() []int { return []int{0, 1, 5, 255, 256, 258, api.MaxPages - 2, api.MaxPages - 1} }

func noPlaces() []int {
	return []int{-1, -2, -255, -4096, math.MinInt32, math.MinInt, api.MaxPages, api.MaxPages + 1, 1 << 16, math.MaxInt32, math.MaxInt}
}

// stamps that may be.
func stamps() []uint64 {
	return []uint64{1, 2, 9, 255, 256, 0x0102030405060708, math.MaxInt64, 1 << 63, math.MaxUint64 - 1, math.MaxUint64}
}

// P4.1: Put.

// Its bytes, told by hand: those of a frame of two bytes, at 258, as kind 7.
func TestPutByteByByte(t *testing.T) {
	page := put(t, 258, 7, 0x0102030405060708, []byte("ab"))
	want := make([]byte, 4096)
	for s := range 8 {
		copy(want[512*s:], []byte{1, 2, 3, 4, 5, 6, 7, 8})
	}
	copy(want[8:], []byte{0, 0, 0, 0, 0, 0, 1, 2, 7, 0, 0, 0, 0, 0, 0, 0, 2, 'a', 'b'})
	if !bytes.Equal(page[:4092], want[:4092]) {
		t.Errorf("a frame is\n%s, not\n%s", hex.Dump(page[:4092]), hex.Dump(want[:4092]))
	}
}

// Checks that were worked out elsewhere, bit by bit; the lowest byte stands first.
func TestPutCheck(t *testing.T) {
	rising := make([]byte, api.Room)
	for i := range rising {
		rising[i] = byte(i % 251)
	}
	for _, c := range []struct {
		at    int
		kind  uint8
		stamp uint64
		b     []byte
		want  []byte
	}{
		{5, 1, 9, []byte("ab"), []byte{0x35, 0xd7, 0xb8, 0x28}},
		{0, 0, 1, nil, []byte{0x48, 0x06, 0x3e, 0xa9}},
		{4095, 255, math.MaxUint64, bytes.Repeat([]byte("z"), api.Room), []byte{0xb4, 0x4c, 0xfd, 0xbb}},
		{258, 7, 0x0102030405060708, rising, []byte{0x17, 0xb6, 0xc4, 0x0e}},
	} {
		if got := put(t, c.at, c.kind, c.stamp, c.b)[4092:]; !bytes.Equal(got, c.want) {
			t.Errorf("Put(%d, %d, %d, %d bytes) ends with %x, not %x", c.at, c.kind, c.stamp, len(c.b), got, c.want)
		}
	}
}

func TestPutOfAllSizes(t *testing.T) {
	for _, n := range sizes() {
		for _, b := range [][]byte{pattern(n), make([]byte, n), bytes.Repeat([]byte{255}, n)} {
			if got, want := put(t, 5, 1, 9, b), of(5, 1, 9, b).page(); !bytes.Equal(got, want) {
				t.Errorf("the frame of %d bytes is another one", n)
			}
		}
	}
	for _, none := range [][]byte{nil, {}, pattern(9)[:0]} {
		if !bytes.Equal(put(t, 5, 1, 9, none), of(5, 1, 9, nil).page()) {
			t.Error("the frame of no bytes is another one")
		}
	}
}

func TestPutOfAllPlacesKindsAndStamps(t *testing.T) {
	for _, at := range places() {
		for _, kind := range []uint8{0, 1, 2, 128, 255} {
			for _, stamp := range stamps() {
				if got, want := put(t, at, kind, stamp, []byte("ab")), of(at, kind, stamp, []byte("ab")).page(); !bytes.Equal(got, want) {
					t.Errorf("the frame at %d, of kind %d, of stamp %d is another one", at, kind, stamp)
				}
			}
		}
	}
}

// refused fails where Put answers another error, or a page beside it.
func refused(t *testing.T, at int, stamp uint64, b []byte, want api.Errno) {
	t.Helper()
	if page, e := frame.Put(at, 1, stamp, b); e != want || len(page) != 0 {
		t.Errorf("Put(%d, 1, %d, %d bytes): %d bytes, %v, not %v", at, stamp, len(b), len(page), e, want)
	}
}

func TestPutRefuses(t *testing.T) {
	for _, at := range noPlaces() {
		refused(t, at, 1, nil, api.ErrArg)
		refused(t, at, 1, pattern(api.Room), api.ErrArg)
	}
	for _, at := range places() {
		refused(t, at, 0, []byte("ab"), api.ErrArg)
		refused(t, at, 1, pattern(api.Room+1), api.ErrLong)
	}
	for _, n := range []int{api.Room + 1, api.Room + 2, api.Page, api.Page + 1, 1 << 20} {
		refused(t, 5, 9, make([]byte, n), api.ErrLong)
	}
}

// A place, or a stamp, that may not be goes ahead of bytes that are too many.
func TestPutOrderOfErrors(t *testing.T) {
	long := pattern(api.Room + 1)
	for _, at := range noPlaces() {
		refused(t, at, 9, long, api.ErrArg)
		refused(t, at, 0, long, api.ErrArg)
	}
	refused(t, 5, 0, long, api.ErrArg)
	refused(t, 5, 9, long, api.ErrLong)
}

func TestPutSharesNothing(t *testing.T) {
	for _, n := range []int{2, 488, api.Room} {
		whole := pattern(n + 50)
		b := whole[:n] // with room behind it, which isn't Put's
		want := of(5, 1, 9, b).page()
		page, again := put(t, 5, 1, 9, b), put(t, 5, 1, 9, b)
		if !bytes.Equal(whole, pattern(n+50)) {
			t.Errorf("%d bytes that were handed in are others now", n)
		}
		clear(b)
		if !bytes.Equal(page, want) {
			t.Errorf("the frame of %d bytes shares them", n)
		}
		copy(b, pattern(n))
		clear(page)
		if !bytes.Equal(again, want) || !bytes.Equal(b, pattern(n)) {
			t.Errorf("two frames of %d bytes share, or one shares these", n)
		}
		if !bytes.Equal(put(t, 5, 1, 9, b), want) {
			t.Errorf("an earlier frame of %d bytes plays a part", n)
		}
	}
	put(t, 5, 1, 9, pattern(api.Room))
	if !bytes.Equal(put(t, 5, 1, 9, nil), of(5, 1, 9, nil).page()) {
		t.Error("bytes of an earlier frame play a part")
	}
}

// P4.2: Get.

func TestGetOfFrames(t *testing.T) {
	for _, n := range sizes() {
		for _, b := range [][]byte{pattern(n), make([]byte, n)} {
			isWhole(t, of(5, 1, 9, b).page(), 5, 1, 9, b)
		}
	}
	for _, at := range places() {
		for _, kind := range []uint8{0, 1, 128, 255} {
			for _, stamp := range stamps() {
				isWhole(t, of(at, kind, stamp, []byte("ab")).page(), at, kind, stamp, []byte("ab"))
			}
		}
	}
}

func TestGetOfNoPage(t *testing.T) {
	right := of(5, 1, 9, pattern(api.Room)).page()
	for _, n := range []int{0, 1, 8, 16, 17, 25, 511, 512, 4091, 4092, 4095} {
		isNotWhole(t, "too few bytes", right[:n], 5, 1)
		isNotWhole(t, "bytes 0, too few", make([]byte, n), 0, 0)
	}
	for _, n := range []int{4097, 4104, 4608, 8192} {
		isNotWhole(t, "too many bytes", append(slices.Clone(right), make([]byte, n-4096)...), 5, 1)
		isNotWhole(t, "bytes 0, too many", make([]byte, n), 0, 0)
	}
	isNotWhole(t, "two pages", slices.Concat(right, right), 5, 1)
	isNotWhole(t, "nil", nil, 5, 1)
	isNotWhole(t, "nil", nil, 0, 0)
	isNotWhole(t, "bytes 0", make([]byte, api.Page), 0, 0)
	isNotWhole(t, "bytes 255", bytes.Repeat([]byte{255}, api.Page), -1, 255)
	isNotWhole(t, "any bytes", pattern(api.Page), 5, 1)
}

func TestGetElsewhere(t *testing.T) {
	for _, at := range places() {
		page := of(at, 1, 9, []byte("ab")).page()
		for _, other := range slices.Concat(places(), noPlaces(), []int{at + 1, at - 1, at ^ 256, at + 4096, -at}) {
			if other != at {
				isNotWhole(t, "another place", page, other, 1)
			}
		}
	}
}

func TestGetAsAnotherKind(t *testing.T) {
	for _, kind := range []uint8{0, 1, 2, 127, 128, 255} {
		page := of(5, kind, 9, []byte("ab")).page()
		for other := range 256 {
			if uint8(other) != kind {
				isNotWhole(t, "another kind", page, 5, uint8(other))
			}
		}
		isWhole(t, page, 5, kind, 9, []byte("ab"))
	}
}

// A page that says a place that may not be, and whose check is right, is whole nowhere.
func TestGetAtNoPlace(t *testing.T) {
	for _, at := range noPlaces() {
		page := of(at, 1, 9, []byte("ab")).page()
		for _, other := range slices.Concat(places(), noPlaces()) {
			isNotWhole(t, "a place that may not be", page, other, 1)
		}
	}
	for _, at := range []uint64{1<<32 | 5, 1<<63 | 5, 1<<16 | 5, 1<<12 | 5} {
		page := form{stamp: 9, at: at, kind: 1, count: 2, b: []byte("ab")}.page()
		isNotWhole(t, "a place that is too far", page, 5, 1)
	}
}

func TestGetOfStamp0(t *testing.T) {
	for _, b := range [][]byte{nil, []byte("ab"), pattern(api.Room)} {
		isNotWhole(t, "stamp 0", of(5, 1, 0, b).page(), 5, 1)
		isNotWhole(t, "stamp 0", of(0, 0, 0, b).page(), 0, 0)
	}
}

// The count says more than there is room for, though the check is right.
func TestGetOfACountThatIsTooGreat(t *testing.T) {
	for _, count := range []uint64{api.Room + 1, api.Room + 4, api.Room + 5, 4032, api.Page, 1 << 16, 1 << 31, 1 << 32, 1<<32 | 2, 1 << 62, math.MaxInt64, 1 << 63, 1<<63 | 2, math.MaxUint64} {
		for _, b := range [][]byte{nil, []byte("ab"), pattern(api.Room), make([]byte, api.Room)} {
			f := of(5, 1, 9, b)
			f.count = count
			isNotWhole(t, "a count that is too great", f.page(), 5, 1)
		}
	}
}

// The count was made another one, and the check is still that of the frame that was put.
func TestGetOfAnotherCount(t *testing.T) {
	for _, n := range sizes() {
		f := of(5, 1, 9, pattern(n))
		last := f.page()[4092:]
		for _, count := range []int{-1, 0, n - 1, n + 1, n + 256, api.Room, api.Room + 1, math.MaxInt} {
			f.count = uint64(count)
			if count != n {
				isNotWhole(t, "another count", f.with(last), 5, 1)
			}
		}
	}
}

// What stands behind the bytes that a page holds is not 0, though the check is right.
func TestGetOfMoreBytes(t *testing.T) {
	for _, count := range []uint64{0, 1, 2, 486, 487, 488, api.Room - 1} {
		for _, at := range []int{int(count), int(count) + 1, 600, api.Room - 2, api.Room - 1} {
			if at < int(count) || at >= api.Room {
				continue
			}
			for _, c := range []byte{1, 128, 255} {
				b := make([]byte, api.Room)
				copy(b, pattern(int(count)))
				right := form{stamp: 9, at: 5, kind: 1, count: count, b: b}
				isWhole(t, right.page(), 5, 1, 9, pattern(int(count)))
				last := right.page()[4092:]
				b[at] = c
				isNotWhole(t, "bytes behind what is held", right.page(), 5, 1)
				isNotWhole(t, "bytes behind what is held, another check", right.with(last), 5, 1)
			}
		}
	}
}

// Bytes 0 that are held are not those that stand behind: as many are answered as were put.
func TestGetOfBytes0(t *testing.T) {
	for _, n := range []int{0, 1, 2, 487, 488, api.Room} {
		b := slices.Concat([]byte("ab"), make([]byte, n))[:min(n+2, api.Room)]
		isWhole(t, put(t, 5, 1, 9, b), 5, 1, 9, b)
	}
}

// One of the stamps is another one, greater or less, or 0.
func TestGetOfAnotherStamp(t *testing.T) {
	for _, stamp := range stamps() {
		for s := range sectors {
			for _, other := range []uint64{0, 1, stamp - 1, stamp + 1, stamp ^ 1<<63, stamp ^ 1<<32, math.MaxUint64} {
				if other == stamp {
					continue
				}
				page := of(5, 1, stamp, pattern(600)).page()
				binary.BigEndian.PutUint64(page[512*s:], other)
				isNotWhole(t, "another stamp", page, 5, 1)
				// The check goes with that stamp, and the other seven do not.
				page = of(5, 1, other, pattern(600)).page()
				for i := range sectors {
					if i != s {
						binary.BigEndian.PutUint64(page[512*i:], stamp)
					}
				}
				isNotWhole(t, "seven other stamps", page, 5, 1)
			}
		}
	}
}

// All the stamps are another one, and the check is still that of the frame that was put: it tells.
func TestGetOfOtherStamps(t *testing.T) {
	f := of(5, 1, 9, pattern(600))
	last := f.page()[4092:]
	for _, stamp := range []uint64{0, 1, 8, 10, 1<<63 | 9, math.MaxUint64} {
		f.stamp = stamp
		isNotWhole(t, "other stamps", f.with(last), 5, 1)
	}
}

func TestGetOfAnotherCheck(t *testing.T) {
	f := of(5, 1, 9, []byte("ab"))
	last := f.page()[4092:]
	isWhole(t, f.with(last), 5, 1, 9, []byte("ab"))
	for bit := range 32 {
		other := slices.Clone(last)
		other[bit/8] ^= 1 << (bit % 8)
		isNotWhole(t, "another check", f.with(other), 5, 1)
	}
	other := slices.Clone(last)
	slices.Reverse(other)
	isNotWhole(t, "the highest byte of the check first", f.with(other), 5, 1)
	isNotWhole(t, "no check", f.with(make([]byte, 4)), 5, 1)
}

func TestGetSharesNothing(t *testing.T) {
	for _, n := range []int{2, 488, api.Room} {
		whole := append(of(5, 1, 9, pattern(n)).page(), 1, 2, 3)
		page := whole[:api.Page]
		kept := slices.Clone(whole)
		b, _, _ := frame.Get(page, 5, 1)
		again, _, _ := frame.Get(page, 5, 1)
		if !bytes.Equal(whole, kept) {
			t.Errorf("a page of %d bytes that was handed in is another one now", n)
		}
		clear(page)
		if !bytes.Equal(b, pattern(n)) {
			t.Errorf("the %d bytes that are answered share the page", n)
		}
		copy(page, kept)
		clear(b)
		_ = append(b, 7, 7, 7, 7)
		if !bytes.Equal(again, pattern(n)) || !bytes.Equal(whole, kept) {
			t.Errorf("two answers of %d bytes share, or one shares the page", n)
		}
		isWhole(t, page, 5, 1, 9, pattern(n))
		isNotWhole(t, "behind a page that is whole", nil, 5, 1)
	}
}

// P4.3: Newest.

// newest fails where page's greatest number is another one.
func newest(t *testing.T, page []byte, want uint64) {
	t.Helper()
	if got := frame.Newest(page); got != want {
		t.Errorf("Newest: %d, not %d", got, want)
	}
}

func TestNewestOfFrames(t *testing.T) {
	for _, stamp := range stamps() {
		for _, b := range [][]byte{nil, []byte("ab"), bytes.Repeat([]byte{255}, api.Room)} {
			newest(t, put(t, 5, 1, stamp, b), stamp)
			newest(t, of(-1, 1, stamp, b).page(), stamp) // whether it is whole plays no part
		}
	}
}

func TestNewestOfNoPage(t *testing.T) {
	right := bytes.Repeat([]byte{255}, 2*api.Page)
	for _, n := range []int{0, 1, 7, 8, 511, 512, 4095, 4097, 4104, 4608, 8192} {
		newest(t, right[:n], 0)
	}
	newest(t, nil, 0)
	newest(t, make([]byte, api.Page), 0)
	newest(t, right[:api.Page], math.MaxUint64)
}

// Whatever each sector begins with, and whatever stands behind it, the greatest number is answered.
func TestNewestOfAnyBytes(t *testing.T) {
	random := rand.New(rand.NewSource(41))
	for i := range 300 {
		page := make([]byte, api.Page)
		random.Read(page)
		var want uint64
		for s := range sectors {
			n := random.Uint64() >> (i % 64)
			binary.BigEndian.PutUint64(page[512*s:], n)
			want = max(want, n)
		}
		kept := slices.Clone(page)
		newest(t, page, want)
		if !bytes.Equal(page, kept) {
			t.Fatal("bytes that were handed in are others now")
		}
		newest(t, make([]byte, api.Page), 0) // an earlier call plays no part
	}
}

// The greatest one is found in each sector, and stays one above 2^63.
func TestNewestOfEachSector(t *testing.T) {
	for s := range sectors {
		for _, n := range stamps() {
			page := make([]byte, api.Page)
			binary.BigEndian.PutUint64(page[512*s:], n)
			newest(t, page, n)
			page = of(5, 1, n-1, pattern(600)).page()
			binary.BigEndian.PutUint64(page[512*s:], n)
			newest(t, page, n)
		}
	}
}

// The chapter's examples.

func TestExamples(t *testing.T) {
	page := put(t, 5, 1, 9, []byte("ab"))
	isWhole(t, page, 5, 1, 9, []byte("ab"))
	isNotWhole(t, "at 6", page, 6, 1)
	isNotWhole(t, "as kind 2", page, 5, 2)
	refused(t, 5, 0, []byte("ab"), api.ErrArg)
	refused(t, 4096, 1, []byte("ab"), api.ErrArg)
	newest(t, make([]byte, api.Page), 0)
}
