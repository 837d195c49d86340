package plan_test

import (
	"bytes"
	"encoding/binary"
	"maps"
	"math"
	"math/rand"
	"slices"
	"testing"

	"quitrent/api"
	"quitrent/plan"
)

// The bounds, as the document tells them.
const (
	maxTiers = 4
	maxUnits = 1099511627776
	maxMoney = 1125899906842624
	maxId    = 4294967295

	least    = math.MinInt64
	greatest = math.MaxInt64
)

// seven is that of the chapter's Examples.
func seven() api.Plan {
	return api.Plan{Id: 7, Daily: 10, Monthly: 100, Over: 5, Roll: 20, Base: 1000, Tiers: of(0, 3)}
}

// with is the plan 7 of which something is changed.
func with(change func(p *api.Plan)) api.Plan {
	p := seven()
	change(&p)
	return p
}

// of is tiers of these numbers: of each one its Upto, and its Price.
func of(numbers ...int64) []api.Tier {
	var l []api.Tier
	for i := 0; i+1 < len(numbers); i += 2 {
		l = append(l, api.Tier{Upto: numbers[i], Price: numbers[i+1]})
	}
	return l
}

// someTiers are such as may be: of each number of them, with numbers at their bounds.
var someTiers = [][]api.Tier{
	of(0, 0), of(0, 1), of(0, maxMoney), of(1, 0, 0, 0), of(1, 2, 0, 1), of(maxUnits, maxMoney, 0, maxMoney), of(10, 5, 100, 3, 0, 1), of(maxUnits-1, maxMoney, maxUnits, 0, 0, maxMoney),
	of(1, 1, 2, 2, 3, 3, 0, 4), of(maxUnits-2, maxMoney, maxUnits-1, maxMoney, maxUnits, maxMoney, 0, maxMoney), of(1, 0, 2, 0, maxUnits, 0, 0, 0),
}

// noTiers are such as may not be.
var noTiers = [][]api.Tier{
	nil, {}, of(1, 1, 2, 1, 3, 1, 4, 1, 0, 1), of(1, 1, 2, 1, 3, 1, 4, 1, 5, 1, 0, 1),
	of(1, 1), of(maxUnits, 1), of(-1, 1), of(5, 1, 10, 1), of(1, 1, 2, 1, 3, 1, 4, 1),
	of(0, 1, 0, 1), of(0, 1, 5, 1), of(5, 1, 0, 1, 0, 1), of(5, 1, 0, 1, 10, 1, 0, 1),
	of(5, 1, 5, 1, 0, 1), of(5, 1, 4, 1, 0, 1), of(5, 1, 10, 1, 10, 1, 0, 1), of(5, 1, 10, 1, 5, 1, 0, 1), of(maxUnits, 1, maxUnits, 1, 0, 1),
	of(-1, 1, 0, 1), of(5, 1, -1, 1, 0, 1), of(least, 1, 0, 1), of(maxUnits+1, 1, 0, 1), of(5, 1, maxUnits+1, 1, 0, 1), of(greatest, 1, 0, 1),
	of(0, -1), of(0, maxMoney+1), of(0, least), of(0, greatest), of(5, -1, 0, 1), of(5, 1, 0, -1), of(5, maxMoney+1, 0, 1), of(5, 1, 0, maxMoney+1),
	of(1, 1, 2, 1, 3, 1, 0, -1), of(1, 1, 2, 1, 3, 1, 0, maxMoney+1), of(1, 1, 2, 1, 3, -1, 0, 1),
}

// somePlans are such as may be: the plan 7, those with the least numbers and with the greatest ones, and with each kind of tiers.
func somePlans() []api.Plan {
	l := []api.Plan{
		seven(),
		{Id: 1, Tiers: of(0, 0)},
		{Id: maxId, Daily: maxUnits, Monthly: maxUnits, Over: maxUnits, Roll: maxUnits, Base: maxMoney, Tiers: of(maxUnits-2, maxMoney, maxUnits-1, maxMoney, maxUnits, maxMoney, 0, maxMoney)},
		{Id: 2, Daily: 1, Monthly: 2, Over: 3, Roll: 4, Base: 5, Tiers: of(6, 7, 8, 9, 10, 11, 0, 12)},
		{Id: 0x01020304, Daily: 0x0506070809, Monthly: 0x0a0b0c0d0e, Over: 0x0f10111213, Roll: 0x1415161718, Base: 0x0002191a1b1c1d1e, Tiers: of(0x1f20212223, 0x0001242526272829, 0, 0x00012a2b2c2d2e2f)},
	}
	for _, tiers := range someTiers {
		l = append(l, with(func(p *api.Plan) { p.Tiers = slices.Clone(tiers) }))
	}
	return l
}

// anyPlan is one that may be, by chance, of any greatness.
func anyPlan(r *rand.Rand) api.Plan {
	units := func() int64 { return r.Int63n(maxUnits+1) >> r.Intn(42) }
	ends := map[int64]bool{}
	for range r.Intn(maxTiers) {
		ends[1+r.Int63n(maxUnits>>r.Intn(38))] = true
	}
	tiers := make([]api.Tier, len(ends)+1)
	for i, upto := range slices.Sorted(maps.Keys(ends)) {
		tiers[i].Upto = upto
	}
	for i := range tiers {
		tiers[i].Price = r.Int63n(maxMoney+1) >> r.Intn(52)
	}
	return api.Plan{
		Id:    1 + uint32(r.Int63n(maxId)>>r.Intn(32)),
		Daily: units(), Monthly: units(), Over: units(), Roll: units(),
		Base:  r.Int63n(maxMoney+1) >> r.Intn(52),
		Tiers: tiers,
	}
}

// mayBe tells whether a plan may be, as the chapters' words have it.
func mayBe(p api.Plan) bool {
	if p.Id == 0 || p.Base < 0 || p.Base > maxMoney || len(p.Tiers) == 0 || len(p.Tiers) > maxTiers {
		return false
	}
	for _, n := range []int64{p.Daily, p.Monthly, p.Over, p.Roll} {
		if n < 0 || n > maxUnits {
			return false
		}
	}
	for i, x := range p.Tiers {
		last := i == len(p.Tiers)-1
		switch {
		case x.Price < 0 || x.Price > maxMoney:
			return false
		case last && x.Upto != 0:
			return false
		case !last && (x.Upto <= 0 || x.Upto > maxUnits):
			return false
		case !last && i > 0 && x.Upto <= p.Tiers[i-1].Upto:
			return false
		}
	}
	return true
}

// numbers are those of a plan, in the order of its bytes.
func numbers(p api.Plan) []int64 {
	l := []int64{int64(p.Id), p.Daily, p.Monthly, p.Over, p.Roll, p.Base, int64(len(p.Tiers))}
	for _, x := range p.Tiers {
		l = append(l, x.Upto, x.Price)
	}
	return l
}

// laid is the bytes of these numbers.
func laid(l ...int64) []byte {
	var b []byte
	for _, n := range l {
		b = binary.BigEndian.AppendUint64(b, uint64(n))
	}
	return b
}

// words are the numbers whose bytes these are, without those that are too few for one.
func words(b []byte) []int64 {
	var l []int64
	for ; len(b) >= 8; b = b[8:] {
		l = append(l, int64(binary.BigEndian.Uint64(b)))
	}
	return l
}

// read is the plan whose bytes these are, by the document's words, and whether there is one.
func read(b []byte) (api.Plan, bool) {
	if len(b)%8 != 0 || len(b) < 7*8 {
		return api.Plan{}, false
	}
	l := words(b)
	rest := l[7:]
	if l[0] < 0 || l[0] > maxId || l[6] != int64(len(rest)/2) || len(rest)%2 != 0 {
		return api.Plan{}, false
	}
	p := api.Plan{Id: uint32(l[0]), Daily: l[1], Monthly: l[2], Over: l[3], Roll: l[4], Base: l[5], Tiers: of(rest...)}
	if !mayBe(p) {
		return api.Plan{}, false
	}
	return p, true
}

// same tells whether two plans say the same.
func same(p, q api.Plan) bool {
	return p.Id == q.Id && p.Daily == q.Daily && p.Monthly == q.Monthly && p.Over == q.Over && p.Roll == q.Roll && p.Base == q.Base && slices.Equal(p.Tiers, q.Tiers)
}

// lends hands a plan to a call, its tiers with room behind them, and fails where these became others.
func lends(t testing.TB, p api.Plan, call func(p api.Plan)) {
	t.Helper()
	behind := api.Tier{Upto: -77, Price: -78}
	whole := append(slices.Clone(p.Tiers), behind, behind)
	q := p
	q.Tiers = whole[:len(p.Tiers)]
	call(q)
	if !slices.Equal(whole, append(slices.Clone(p.Tiers), behind, behind)) {
		t.Fatalf("the tiers of %v became %v", p, whole)
	}
}

// checks fails where Check of a plan answers otherwise.
func checks(t testing.TB, p api.Plan, want bool) {
	t.Helper()
	lends(t, p, func(p api.Plan) {
		if got := plan.Check(p); got != want {
			t.Fatalf("Check(%v): %v", p, got)
		}
	})
}

// puts fails where Put of a plan answers other bytes, or another error.
func puts(t testing.TB, p api.Plan, want []byte, e api.Errno) {
	t.Helper()
	lends(t, p, func(p api.Plan) {
		if got, f := plan.Put(p); !bytes.Equal(got, want) || f != e {
			t.Fatalf("Put(%v): %x, %v, not %x, %v", p, got, f, want, e)
		}
	})
}

// gets fails where Get of these bytes answers another plan, or another error.
func gets(t testing.TB, b []byte, want api.Plan, e api.Errno) {
	t.Helper()
	whole := append(bytes.Clone(b), 0x77, 0x78)
	got, f := plan.Get(whole[:len(b)])
	if !same(got, want) || f != e {
		t.Fatalf("Get(%x): %v, %v, not %v, %v", b, got, f, want, e)
	}
	if !bytes.Equal(whole, append(bytes.Clone(b), 0x77, 0x78)) {
		t.Fatalf("the bytes %x became %x", b, whole)
	}
}

// isNone fails where these bytes are a plan's.
func isNone(t testing.TB, b []byte) {
	t.Helper()
	gets(t, b, api.Plan{}, api.ErrForm)
}

// getsByTheBook fails where Get of these bytes answers otherwise than by the document's words.
func getsByTheBook(t testing.TB, b []byte) {
	t.Helper()
	p, ok := read(b)
	if !ok {
		isNone(t, b)
		return
	}
	gets(t, b, p, api.OK)
}

// carries fails where Carry answers another number.
func carries(t testing.TB, p api.Plan, free, want int64) {
	t.Helper()
	lends(t, p, func(p api.Plan) {
		if got := plan.Carry(p, free); got != want {
			t.Fatalf("Carry(%v, %d): %d, not %d", p, free, got, want)
		}
	})
}

// hasRoom fails where Room answers another number, or another error.
func hasRoom(t testing.TB, p api.Plan, roll, want int64, e api.Errno) {
	t.Helper()
	lends(t, p, func(p api.Plan) {
		if got, f := plan.Room(p, roll); got != want || f != e {
			t.Fatalf("Room(%v, %d): %d, %v, not %d, %v", p, roll, got, f, want, e)
		}
	})
}

// isTakenAs fails where Check, Put or Room of a plan does not answer as of one that may be, or as of one that may not.
func isTakenAs(t testing.TB, p api.Plan, want bool) {
	t.Helper()
	checks(t, p, want)
	if !want {
		puts(t, p, nil, api.ErrArg)
		hasRoom(t, p, 0, 0, api.ErrArg)
		return
	}
	puts(t, p, laid(numbers(p)...), api.OK)
	hasRoom(t, p, 0, p.Monthly, api.OK)
}
