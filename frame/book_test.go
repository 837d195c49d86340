package frame_test

import (
	"bytes"
	"encoding/binary"
	"hash/crc32"
	"testing"

	"quitrent/api"
	"quitrent/frame"
)

// Where things stand in a page, and in its inside, as the chapter's Words tell it.
const (
	sectors    = 8
	insideSize = 504              // of a sector
	headSize   = 17               // place, kind, count
	sumAt      = 8*insideSize - 4 // of the inside
)

// form is what a page says, right or not.
type form struct {
	stamp, at, count uint64
	kind             uint8
	b                []byte // what stands behind the count: at most Room
}

// of is what a right frame says.
func of(at int, kind uint8, stamp uint64, b []byte) form {
	return form{stamp: stamp, at: uint64(at), kind: kind, count: uint64(len(b)), b: b}
}

// inside is all of it ahead of the check.
func (f form) inside() []byte {
	b := binary.BigEndian.AppendUint64(nil, f.at)
	b = append(b, f.kind)
	b = binary.BigEndian.AppendUint64(b, f.count)
	b = append(b, f.b...)
	return append(b, make([]byte, sumAt-len(b))...)
}

// sum is the check of the stamp's bytes and of the inside.
func (f form) sum() uint32 {
	b := append(binary.BigEndian.AppendUint64(nil, f.stamp), f.inside()...)
	return crc32.Checksum(b, crc32.MakeTable(crc32.Castagnoli))
}

// page is f as a page whose check is right.
func (f form) page() []byte { return f.with(binary.LittleEndian.AppendUint32(nil, f.sum())) }

// with is f as a page whose last four bytes are these.
func (f form) with(last []byte) []byte {
	inside := append(f.inside(), last...)
	var page []byte
	for s := range sectors {
		page = binary.BigEndian.AppendUint64(page, f.stamp)
		page = append(page, inside[s*insideSize:(s+1)*insideSize]...)
	}
	return page
}

// taken is what a page of Page bytes says: the inside, and what each sector begins with.
func taken(page []byte) (inside []byte, stamps []uint64) {
	for s := range sectors {
		sector := page[s*api.Sector : (s+1)*api.Sector]
		stamps = append(stamps, binary.BigEndian.Uint64(sector))
		inside = append(inside, sector[8:]...)
	}
	return inside, stamps
}

// wholeByTheBook asks each thing that the chapter's Words ask of a page that is whole, one by one.
func wholeByTheBook(page []byte, at int, kind uint8) bool {
	if len(page) != api.Page || at < 0 || at > 4095 {
		return false
	}
	inside, stamps := taken(page)
	for _, s := range stamps {
		if s != stamps[0] || s == 0 {
			return false
		}
	}
	if binary.BigEndian.Uint64(inside) != uint64(at) || inside[8] != kind {
		return false
	}
	count := binary.BigEndian.Uint64(inside[9:])
	if count > 4011 {
		return false
	}
	for _, c := range inside[headSize+count : sumAt] {
		if c != 0 {
			return false
		}
	}
	f := form{stamp: stamps[0], at: uint64(at), kind: kind, count: count, b: inside[headSize : headSize+count]}
	return binary.LittleEndian.Uint32(inside[sumAt:]) == f.sum()
}

// pattern is n bytes, none of them 0, which go round at no sector's end.
func pattern(n int) []byte {
	b := make([]byte, n)
	for i := range b {
		b[i] = byte(1 + i%251)
	}
	return b
}

// put is a frame of what may be put.
func put(t testing.TB, at int, kind uint8, stamp uint64, b []byte) []byte {
	t.Helper()
	page, e := frame.Put(at, kind, stamp, b)
	if e != api.OK || len(page) != api.Page {
		t.Fatalf("Put(%d, %d, %d, %d bytes): %d bytes, %v", at, kind, stamp, len(b), len(page), e)
	}
	return page
}

// isWhole fails where page is not whole there, with these bytes and this stamp.
func isWhole(t testing.TB, page []byte, at int, kind uint8, stamp uint64, b []byte) {
	t.Helper()
	got, s, ok := frame.Get(page, at, kind)
	if !ok || s != stamp || !bytes.Equal(got, b) {
		t.Errorf("Get at %d, as kind %d: %d bytes, %d, %v, not %d bytes, %d", at, kind, len(got), s, ok, len(b), stamp)
	}
}

// isNotWhole fails where page is whole there, or where anything is answered beside the false.
func isNotWhole(t testing.TB, name string, page []byte, at int, kind uint8) {
	t.Helper()
	if b, s, ok := frame.Get(page, at, kind); ok || s != 0 || len(b) != 0 {
		t.Errorf("%s: Get at %d, as kind %d: %d bytes, %d, %v, not none, 0, false", name, at, kind, len(b), s, ok)
	}
}
