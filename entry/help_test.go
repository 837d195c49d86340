package entry_test

import (
	"bytes"
	"encoding/binary"
	"math"
	"math/rand"
	"slices"
	"strings"
	"testing"

	"quitrent/api"
)

// The bounds, as the document tells them.
const (
	maxTime   = 137438953472
	maxParts  = 16
	maxName   = 32
	maxLines  = 28
	maxAmount = 4611686018427387904
	maxId     = 4294967295

	least    = math.MinInt64
	greatest = math.MaxInt64
)

// piece is some of an entry's bytes: a number, or a text's length, or the text.
type piece struct {
	name  string
	bytes []byte
	wrong [][]byte // which may not stand there instead, as long as all else stays
}

// word is a number's bytes.
func word(n int64) []byte { return binary.BigEndian.AppendUint64(nil, uint64(n)) }

// words are those of some.
func words(l ...int64) [][]byte {
	var all [][]byte
	for _, n := range l {
		all = append(all, word(n))
	}
	return all
}

// length is a text's length's bytes.
func length(n uint32) []byte { return binary.BigEndian.AppendUint32(nil, n) }

// number is a piece.
func number(name string, n int64, wrong ...int64) piece {
	return piece{name, word(n), words(wrong...)}
}

// id is one that goes where 32 bits are.
func id(name string, n uint32, wrong ...int64) piece {
	return number(name, int64(n), append(wrong, maxId+1, maxId+2, 1<<33, 1<<32+int64(n), 1<<62+int64(n), greatest, least, least+int64(n), -1, -2, -maxId-1, -1<<32+int64(n))...)
}

// count is one that tells how many come behind it, of most at most.
func count(n, most int) piece {
	return number("count", int64(n), int64(n)-1, int64(n)+1, -1, int64(most)+1, int64(-n-1), 1<<32+int64(n), 1<<31, 1<<32, 1<<61, least+int64(n), least, greatest)
}

// laid is the bytes of all pieces.
func laid(l []piece) []byte {
	var b []byte
	for _, x := range l {
		b = append(b, x.bytes...)
	}
	return b
}

// turned is the same, but for one of them.
func turned(l []piece, at int, to []byte) []byte {
	l = slices.Clone(l)
	l[at].bytes = to
	return laid(l)
}

// cursor reads bytes by the document's words.
type cursor struct {
	left []byte
	bad  bool
}

func (c *cursor) take(size int) []byte {
	if size > len(c.left) {
		c.bad, c.left = true, nil
		return nil
	}
	b := c.left[:size]
	c.left = c.left[size:]
	return b
}

func (c *cursor) number() int64 {
	if b := c.take(8); b != nil {
		return int64(binary.BigEndian.Uint64(b))
	}
	return 0
}

func (c *cursor) id() uint32 {
	n := c.number()
	c.bad = c.bad || n < 0 || n > maxId
	return uint32(n)
}

func (c *cursor) small() uint8 {
	if b := c.take(1); b != nil {
		return b[0]
	}
	return 0
}

func (c *cursor) text() string {
	if b := c.take(4); b != nil {
		return string(c.take(int(binary.BigEndian.Uint32(b))))
	}
	return ""
}

// some calls do as many times as the number there says, if that is at most most.
func (c *cursor) some(most int64, do func()) {
	n := c.number()
	if n < 0 || n > most {
		c.bad = true
		return
	}
	for range n {
		do()
	}
}

func (c *cursor) done() bool { return !c.bad && len(c.left) == 0 }

// layout is one of the four that are kept: the layer's calls of it, and what the document says of it.
type layout[T any] struct {
	name   string
	put    func(v T) ([]byte, api.Errno)
	get    func(b []byte) (T, api.Errno)
	pieces func(v T) []piece
	mayBe  func(v T) bool
	read   func(c *cursor) T // whatever is amiss in it; mayBe, and c, tell
	same   func(v, w T) bool
	lent   func(v T) (T, func() bool) // a copy with room behind its lists, and whether all of that is still as it was
	some   func() []T                 // such as may be
	any    func(r *rand.Rand) T       // one of those, by chance
}

// book is what the document's words read of bytes, and whether that is anything.
func (y layout[T]) book(b []byte) (T, bool) {
	c := &cursor{left: b}
	v := y.read(c)
	if !c.done() || !y.mayBe(v) {
		var none T
		return none, false
	}
	return v, true
}

// puts fails where Put answers other bytes, or another error, or changes what it is handed.
func (y layout[T]) puts(t testing.TB, v T, want []byte, e api.Errno) {
	t.Helper()
	w, still := y.lent(v)
	got, f := y.put(w)
	if !bytes.Equal(got, want) || f != e {
		t.Fatalf("Put%s(%#v): %x, %v, not %x, %v", y.name, v, got, f, want, e)
	}
	if !still() {
		t.Fatalf("Put%s(%#v) changed that", y.name, v)
	}
}

// gets fails where Get answers something else, or another error, or changes what it is handed.
func (y layout[T]) gets(t testing.TB, b []byte, want T, e api.Errno) {
	t.Helper()
	whole := append(bytes.Clone(b), 0x77, 0x78)
	got, f := y.get(whole[:len(b)])
	if !y.same(got, want) || f != e {
		t.Fatalf("Get%s(%x): %#v, %v, not %#v, %v", y.name, b, got, f, want, e)
	}
	if !bytes.Equal(whole, append(bytes.Clone(b), 0x77, 0x78)) {
		t.Fatalf("Get%s(%x): the bytes became %x", y.name, b, whole)
	}
}

// isNone fails where these bytes are read.
func (y layout[T]) isNone(t testing.TB, b []byte) {
	t.Helper()
	var none T
	y.gets(t, b, none, api.ErrForm)
}

// getsByTheBook fails where Get answers otherwise than by the document's words.
func (y layout[T]) getsByTheBook(t testing.TB, b []byte) {
	t.Helper()
	v, ok := y.book(b)
	if !ok {
		y.isNone(t, b)
		return
	}
	y.gets(t, b, v, api.OK)
}

// isTaken fails where one that may be has other bytes, or is not read of them.
func (y layout[T]) isTaken(t testing.TB, v T) {
	t.Helper()
	b := laid(y.pieces(v))
	y.puts(t, v, b, api.OK)
	y.gets(t, b, v, api.OK)
}

// isRefused fails where one that may not be has bytes, or is read of those that it would have.
func (y layout[T]) isRefused(t testing.TB, v T) {
	t.Helper()
	y.puts(t, v, nil, api.ErrArg)
	y.isNone(t, laid(y.pieces(v)))
}

// isTakenIf fails where it is not taken, or refused.
func (y layout[T]) isTakenIf(t testing.TB, v T, ok bool) {
	t.Helper()
	if y.mayBe(v) != ok {
		t.Fatalf("the test's own words on %#v are wrong", v)
	}
	if ok {
		y.isTaken(t, v)
		return
	}
	y.isRefused(t, v)
}

// bound is a number about a bound, and whether it may be.
type bound[N any] struct {
	n  N
	ok bool
}

// anyNumber is one of any greatness, negative ones too.
func anyNumber(r *rand.Rand) int64 { return int64(r.Uint64()) >> r.Intn(64) }

// anyId is one of 32 bits, of any greatness.
func anyId(r *rand.Rand) uint32 { return r.Uint32() >> r.Intn(32) }

// anyText is one of these bytes at least, and at most, whichever they are.
func anyText(r *rand.Rand, least, most int) string {
	b := make([]byte, least+r.Intn(most-least+1))
	r.Read(b)
	return string(b)
}

// a is a text of so many letters.
func a(size int) string { return strings.Repeat("a", size) }
