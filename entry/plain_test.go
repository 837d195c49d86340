package entry_test

import (
	"math/rand"
	"testing"

	"quitrent/api"
	"quitrent/entry"
)

// P14.1, P14.2: PutLease, GetLease, PutPack, GetPack.

func leases() layout[api.Lease] {
	put := func(l api.Lease) ([]byte, api.Errno) { return entry.PutLease(l), api.OK }
	return layout[api.Lease]{"Lease", put, entry.GetLease, leasePieces, always, readLease, equal, lentAsItIs, someLeases, anyLease}
}

func packs() layout[api.Pack] {
	put := func(p api.Pack) ([]byte, api.Errno) { return entry.PutPack(p), api.OK }
	return layout[api.Pack]{"Pack", put, entry.GetPack, packPieces, always, readPack, equal, lentAsItIs, somePacks, anyPack}
}

// always is for what all may be.
func always[T any](T) bool { return true }

func equal[T comparable](v, w T) bool { return v == w }

// lentAsItIs is for what has no lists.
func lentAsItIs[T any](v T) (T, func() bool) { return v, func() bool { return true } }

func leasePieces(l api.Lease) []piece {
	return []piece{id("Id", l.Id), number("Units", l.Units), number("Expires", l.Expires), number("Day", l.Day), number("Month", l.Month)}
}

func packPieces(p api.Pack) []piece {
	return []piece{id("Id", p.Id), number("Expires", p.Expires)}
}

func readLease(c *cursor) api.Lease {
	var l api.Lease
	l.Id = c.id()
	l.Units = c.number()
	l.Expires = c.number()
	l.Day = c.number()
	l.Month = c.number()
	return l
}

func readPack(c *cursor) api.Pack {
	var p api.Pack
	p.Id = c.id()
	p.Expires = c.number()
	return p
}

// Numbers of 32 bits and of 64, the least and the greatest ones among them.
var (
	someIds     = []uint32{0, 1, 2, 255, 256, 1<<31 - 1, 1 << 31, maxId - 1, maxId}
	someNumbers = []int64{least, least + 1, -maxAmount - 1, -1 << 40, -1 << 32, -4, -1, 0, 1, 60, 1 << 32, maxTime, maxTime + 1, 1<<40 + 1, maxAmount, greatest - 1, greatest}
)

func someLeases() []api.Lease {
	return []api.Lease{
		{}, {Id: 1, Units: 2, Expires: 3, Day: -4, Month: 5},
		{Id: maxId, Units: greatest, Expires: greatest, Day: greatest, Month: greatest},
		{Units: least, Expires: least, Day: least, Month: least},
		{Id: maxId, Units: -1, Expires: -1, Day: -1, Month: -1},
		{Id: 0x01020304, Units: 0x05060708090a0b0c, Expires: 0x0d0e0f1011121314, Day: 0x15161718191a1b1c, Month: 0x1d1e1f2021222324},
	}
}

func somePacks() []api.Pack {
	return []api.Pack{
		{}, {Id: 1, Expires: 2}, {Id: maxId, Expires: greatest}, {Expires: least}, {Id: maxId, Expires: -1},
		{Id: 0x01020304, Expires: 0x05060708090a0b0c},
	}
}

func anyLease(r *rand.Rand) api.Lease {
	return api.Lease{Id: anyId(r), Units: anyNumber(r), Expires: anyNumber(r), Day: anyNumber(r), Month: anyNumber(r)}
}

func anyPack(r *rand.Rand) api.Pack {
	return api.Pack{Id: anyId(r), Expires: anyNumber(r)}
}

// Of any numbers, each alone.
func TestLeasesAllMayBe(t *testing.T) {
	for at := range 4 {
		for _, l := range someLeases() {
			for _, n := range someNumbers {
				*[]*int64{&l.Units, &l.Expires, &l.Day, &l.Month}[at] = n
				leases().isTaken(t, l)
			}
		}
	}
	for _, l := range someLeases() {
		for _, n := range someIds {
			l.Id = n
			leases().isTaken(t, l)
		}
	}
}

func TestPacksAllMayBe(t *testing.T) {
	for _, i := range someIds {
		for _, n := range someNumbers {
			packs().isTaken(t, api.Pack{Id: i, Expires: n})
		}
	}
}

func TestKnownLeases(t *testing.T) {
	for _, x := range []struct {
		l    api.Lease
		text string
	}{
		{api.Lease{}, `0000000000000000 0000000000000000 0000000000000000 0000000000000000 0000000000000000`},
		{api.Lease{Id: 1, Units: 2, Expires: 3, Day: -4, Month: 5}, `0000000000000001 0000000000000002 0000000000000003 fffffffffffffffc 0000000000000005`},
		{api.Lease{Id: maxId, Units: greatest, Expires: greatest - 1, Day: least, Month: least + 1}, `00000000ffffffff 7fffffffffffffff 7ffffffffffffffe 8000000000000000 8000000000000001`},
	} {
		leases().puts(t, x.l, raw(t, x.text), api.OK)
		leases().gets(t, raw(t, x.text), x.l, api.OK)
	}
}

func TestKnownPacks(t *testing.T) {
	for _, x := range []struct {
		p    api.Pack
		text string
	}{
		{api.Pack{}, `0000000000000000 0000000000000000`},
		{api.Pack{Id: 1, Expires: 2}, `0000000000000001 0000000000000002`},
		{api.Pack{Id: maxId, Expires: least}, `00000000ffffffff 8000000000000000`},
	} {
		packs().puts(t, x.p, raw(t, x.text), api.OK)
		packs().gets(t, raw(t, x.text), x.p, api.OK)
	}
}

// One of which one field is another one has bytes that differ there alone.
func TestLeasesNumberByNumber(t *testing.T) {
	l := api.Lease{Id: 1, Units: 2, Expires: 3, Day: -4, Month: 5}
	for at, change := range []func(l *api.Lease){
		func(l *api.Lease) { l.Id = 99 }, func(l *api.Lease) { l.Units = 99 }, func(l *api.Lease) { l.Expires = 99 }, func(l *api.Lease) { l.Day = 99 }, func(l *api.Lease) { l.Month = 99 },
	} {
		m := l
		change(&m)
		b := turned(leasePieces(l), at, word(99))
		leases().puts(t, m, b, api.OK)
		leases().gets(t, b, m, api.OK)
	}
}

func TestPacksNumberByNumber(t *testing.T) {
	for at, p := range []api.Pack{{Id: 99, Expires: 2}, {Id: 1, Expires: 99}} {
		b := turned(packPieces(api.Pack{Id: 1, Expires: 2}), at, word(99))
		packs().puts(t, p, b, api.OK)
		packs().gets(t, b, p, api.OK)
	}
}
