package entry_test

import (
	"bytes"
	"math/rand"
	"testing"

	"quitrent/api"
)

// P14.3: what follows.

// comesBack fails where one that may be is not what is read of its bytes.
func (y layout[T]) comesBack(t testing.TB, v T) {
	t.Helper()
	b, e := y.put(v)
	if e != api.OK {
		t.Fatalf("Put%s(%#v): %v", y.name, v, e)
	}
	w, e := y.get(b)
	if e != api.OK || !y.same(v, w) {
		t.Fatalf("Get%s of the bytes of %#v: %#v, %v", y.name, v, w, e)
	}
}

// areIts fails where bytes are read as one whose bytes they are not, and tells whether they are read.
func (y layout[T]) areIts(t testing.TB, b []byte) bool {
	t.Helper()
	v, e := y.get(b)
	if e == api.ErrForm {
		y.isNone(t, b)
		return false
	}
	if e != api.OK {
		t.Fatalf("Get%s(%x): %#v, %v", y.name, b, v, e)
	}
	c, e := y.put(v)
	if e != api.OK || !bytes.Equal(b, c) {
		t.Fatalf("Put%s(%#v): %x, %v, though it was read of %x", y.name, v, c, e, b)
	}
	return true
}

func TestPostingsFollow(t *testing.T) { follows(t, postings()) }
func TestInvoicesFollow(t *testing.T) { follows(t, invoices()) }
func TestLeasesFollow(t *testing.T)   { follows(t, leases()) }
func TestPacksFollow(t *testing.T)    { follows(t, packs()) }

func follows[T any](t *testing.T, y layout[T]) {
	t.Run("come back", func(t *testing.T) { allComeBack(t, y) })
	t.Run("are what they say", func(t *testing.T) { allAreWhatTheySay(t, y) })
	t.Run("others have others", func(t *testing.T) { othersHaveOtherBytes(t, y) })
}

func allComeBack[T any](t *testing.T, y layout[T]) {
	for _, v := range y.some() {
		y.comesBack(t, v)
	}
	r := rand.New(rand.NewSource(3))
	for range 5_000 {
		y.comesBack(t, y.any(r))
	}
}

// Also where one number became another one, which may be or not.
func allAreWhatTheySay[T any](t *testing.T, y layout[T]) {
	r := rand.New(rand.NewSource(4))
	read := 0
	for range 10_000 {
		l := y.pieces(y.any(r))
		at := r.Intn(len(l))
		to := word(anyNumber(r))
		b := turned(l, at, to[8-min(8, len(l[at].bytes)):])
		if y.areIts(t, b) {
			read++
		}
		y.areIts(t, b[:r.Intn(len(b))])
	}
	if read < 1_000 {
		t.Errorf("only %d were read", read)
	}
}

func othersHaveOtherBytes[T any](t *testing.T, y layout[T]) {
	seen := map[string]T{}
	r := rand.New(rand.NewSource(5))
	l := y.some()
	for range 5_000 {
		l = append(l, y.any(r))
	}
	for _, v := range l {
		b, _ := y.put(v)
		if w, ok := seen[string(b)]; ok && !y.same(v, w) {
			t.Fatalf("%#v and %#v have the bytes %x", v, w, b)
		}
		seen[string(b)] = v
	}
}

// Any bytes, for each of the four.
func FuzzBytes(f *testing.F) {
	for _, p := range somePostings() {
		f.Add(laid(postingPieces(p)))
	}
	for _, v := range someInvoices() {
		f.Add(laid(invoicePieces(v)))
	}
	for _, l := range someLeases() {
		f.Add(laid(leasePieces(l)))
	}
	for _, p := range somePacks() {
		f.Add(laid(packPieces(p)))
	}
	f.Add([]byte{})
	f.Fuzz(func(t *testing.T, b []byte) {
		taken(t, postings(), b)
		taken(t, invoices(), b)
		taken(t, leases(), b)
		taken(t, packs(), b)
	})
}

func taken[T any](t *testing.T, y layout[T], b []byte) {
	y.getsByTheBook(t, b)
	y.areIts(t, b)
}

// Any numbers, and texts, of a posting and of an invoice, whether they may be or not: more parts and lines come of the bytes.
func FuzzEntries(f *testing.F) {
	f.Add(uint64(1), int64(2), uint32(3), int64(5), int64(-5), "a", uint8(1), []byte{})
	f.Add(uint64(0), int64(-1), uint32(0), int64(0), int64(-1), "", uint8(0), make([]byte, 20))
	f.Add(uint64(1<<64-1), int64(maxTime), uint32(maxId), int64(maxAmount), int64(greatest), a(maxName), uint8(3), bytes.Repeat([]byte{2}, maxParts-1))
	f.Fuzz(func(t *testing.T, seq uint64, time int64, tenant uint32, n, m int64, name string, kind uint8, more []byte) {
		p := api.Posting{Seq: seq, Time: time, Tenant: tenant, Parts: []api.Part{{Account: name, Amount: n}}}
		v := api.Invoice{No: uint32(seq), Tenant: tenant, Month: time, Total: n, Credited: m, Lines: []api.Line{{Kind: kind, Plan: tenant, Days: time, Units: n, Amount: m}}}
		for _, x := range more {
			p.Parts = append(p.Parts, api.Part{Account: a(int(x)), Amount: m})
			v.Lines = append(v.Lines, api.Line{Kind: x, Plan: uint32(x), Days: n})
		}
		postings().isTakenIf(t, p, postingMayBe(p))
		invoices().isTakenIf(t, v, invoiceMayBe(v))
		leases().isTaken(t, api.Lease{Id: tenant, Units: n, Expires: m, Day: time, Month: int64(seq)})
		packs().isTaken(t, api.Pack{Id: tenant, Expires: n})
	})
}
