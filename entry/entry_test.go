package entry_test

import (
	"bytes"
	"encoding/hex"
	"math/rand"
	"slices"
	"strings"
	"testing"

	"quitrent/api"
	"quitrent/entry"
)

// P14.1, P14.2: what holds for all four.

// raw reads hex with blanks.
func raw(t testing.TB, s string) []byte {
	t.Helper()
	b, err := hex.DecodeString(strings.Join(strings.Fields(s), ""))
	if err != nil {
		t.Fatal(err)
	}
	return b
}

func TestExamples(t *testing.T) {
	if p, e := entry.GetPack(make([]byte, 16)); p.Id != 0 || p.Expires != 0 || e != api.OK {
		t.Errorf("GetPack of 16 bytes 0: %v, %v", p, e)
	}
	if p, e := entry.GetPack(make([]byte, 15)); p.Id != 0 || p.Expires != 0 || e != api.ErrForm {
		t.Errorf("GetPack of 15 bytes 0: %v, %v", p, e)
	}
	for _, l := range [][]api.Part{nil, {}, {{Account: "a"}}, {{Account: "a", Amount: 5}, {Account: "b"}}} {
		if b, e := entry.PutPosting(api.Posting{Seq: 1, Parts: l}); len(b) != 0 || e != api.ErrArg {
			t.Errorf("PutPosting of the parts %#v: %x, %v", l, b, e)
		}
	}
}

// The four, each by its own words.

func TestPostingsByTheBook(t *testing.T) { byTheBook(t, postings()) }
func TestInvoicesByTheBook(t *testing.T) { byTheBook(t, invoices()) }
func TestLeasesByTheBook(t *testing.T)   { byTheBook(t, leases()) }
func TestPacksByTheBook(t *testing.T)    { byTheBook(t, packs()) }

func byTheBook[T any](t *testing.T, y layout[T]) {
	t.Run("that may be", func(t *testing.T) { takesAll(t, y) })
	t.Run("more and fewer bytes", func(t *testing.T) { takesNoOtherNumberOfBytes(t, y) })
	t.Run("one number turned", func(t *testing.T) { takesNoWrongNumber(t, y) })
	t.Run("any bytes", func(t *testing.T) { takesAnyBytesByTheBook(t, y) })
	t.Run("new memory", func(t *testing.T) { answersNewMemory(t, y) })
	t.Run("asked again", func(t *testing.T) { leavesNothingBehind(t, y) })
}

func takesAll[T any](t *testing.T, y layout[T]) {
	r := rand.New(rand.NewSource(1))
	for _, v := range y.some() {
		y.isTakenIf(t, v, true)
	}
	for range 3_000 {
		y.isTakenIf(t, y.any(r), true)
	}
}

// Of an entry's bytes all first ones, all last ones, and the same with some ahead of them or behind.
func takesNoOtherNumberOfBytes[T any](t *testing.T, y layout[T]) {
	y.isNone(t, nil)
	y.isNone(t, []byte{})
	for _, v := range y.some() {
		b := laid(y.pieces(v))
		for n := range b {
			y.isNone(t, b[:n])
			y.getsByTheBook(t, b[n+1:])
		}
		for _, more := range [][]byte{{0}, {1}, {255}, word(0), word(1), b, make([]byte, 33), make([]byte, 4096)} {
			y.isNone(t, slices.Concat(b, more))
			y.getsByTheBook(t, slices.Concat(more, b))
		}
	}
}

func takesNoWrongNumber[T any](t *testing.T, y layout[T]) {
	for _, v := range y.some() {
		l := y.pieces(v)
		for at, x := range l {
			for _, wrong := range x.wrong {
				if bytes.Equal(wrong, x.bytes) {
					continue
				}
				y.isNone(t, turned(l, at, wrong))
			}
		}
	}
}

// One bit, one byte, or one number, that is another one; and bytes that are nobody's.
func takesAnyBytesByTheBook[T any](t *testing.T, y layout[T]) {
	for _, v := range y.some() {
		b := laid(y.pieces(v))
		for bit := range 8 * len(b) {
			c := bytes.Clone(b)
			c[bit/8] ^= 1 << (bit % 8)
			y.getsByTheBook(t, c)
		}
	}
	r := rand.New(rand.NewSource(2))
	for range 10_000 {
		l := y.pieces(y.any(r))
		b := laid(l)
		switch r.Intn(4) {
		case 0:
			b[r.Intn(len(b))] = byte(r.Int())
		case 1:
			b = turned(l, r.Intn(len(l)), word(anyNumber(r)))
		case 2:
			b = append(b[:r.Intn(len(b))], b[r.Intn(len(b)):]...)
		default:
			b = []byte(anyText(r, 0, 120))
		}
		y.getsByTheBook(t, b)
	}
	for size := range 300 {
		for _, x := range []byte{0, 1, 2, 255} {
			y.getsByTheBook(t, bytes.Repeat([]byte{x}, size))
		}
	}
}

// Whoever changes what was answered, or what was handed in, changes no other answer.
func answersNewMemory[T any](t *testing.T, y layout[T]) {
	for _, v := range y.some() {
		want := laid(y.pieces(v))
		first, _ := y.put(v)
		second, _ := y.put(v)
		clear(first[:cap(first)])
		if !bytes.Equal(second, want) {
			t.Fatalf("Put%s(%#v): the other bytes became %x", y.name, v, second)
		}
		b := bytes.Clone(want)
		got, e := y.get(b)
		clear(b)
		if e != api.OK || !y.same(got, v) {
			t.Fatalf("Get%s of the bytes of %#v: became %#v, %v", y.name, v, got, e)
		}
	}
}

// The lists of two answers are two.
func TestAnsweredListsAreNewMemory(t *testing.T) {
	b := laid(postingPieces(two()))
	p, _ := entry.GetPosting(b)
	q, _ := entry.GetPosting(b)
	clear(p.Parts[:cap(p.Parts)])
	if !samePosting(q, two()) {
		t.Errorf("the other posting became %#v", q)
	}
	b = laid(invoicePieces(three()))
	v, _ := entry.GetInvoice(b)
	w, _ := entry.GetInvoice(b)
	clear(v.Lines[:cap(v.Lines)])
	if !sameInvoice(w, three()) {
		t.Errorf("the other invoice became %#v", w)
	}
}

// What was put stays, whatever becomes of what was handed in.
func TestPutKeepsNothing(t *testing.T) {
	p, v := two(), three()
	want, other := laid(postingPieces(p)), laid(invoicePieces(v))
	b, _ := entry.PutPosting(p)
	c, _ := entry.PutInvoice(v)
	clear(p.Parts)
	clear(v.Lines)
	if !bytes.Equal(b, want) || !bytes.Equal(c, other) {
		t.Errorf("the bytes became %x and %x", b, c)
	}
}

func leavesNothingBehind[T any](t *testing.T, y layout[T]) {
	l := y.some()
	for range 3 {
		for _, v := range l {
			b := laid(y.pieces(v))
			y.isNone(t, nil)
			y.isNone(t, b[1:])
			y.isNone(t, append(b, 0))
			y.isTaken(t, v)
		}
	}
}
