package plan_test

import (
	"bytes"
	"math/rand"
	"testing"

	"quitrent/api"
	"quitrent/plan"
)

// P13.3: what follows.

// comesBack fails where a plan that may be is not what is read of its bytes.
func comesBack(t testing.TB, p api.Plan) {
	t.Helper()
	b, e := plan.Put(p)
	if e != api.OK {
		t.Fatalf("Put(%v): %v", p, e)
	}
	q, e := plan.Get(b)
	if e != api.OK || !same(p, q) {
		t.Fatalf("Get of the bytes of %v: %v, %v", p, q, e)
	}
}

// areIts fails where bytes are read as a plan whose bytes they are not.
func areIts(t testing.TB, b []byte) {
	t.Helper()
	p, e := plan.Get(b)
	if e == api.ErrForm {
		isNone(t, b)
		return
	}
	if e != api.OK || !plan.Check(p) {
		t.Fatalf("Get(%x): %v, %v", b, p, e)
	}
	c, e := plan.Put(p)
	if e != api.OK || !bytes.Equal(b, c) {
		t.Fatalf("the bytes of %v: %x, %v, though it was read of %x", p, c, e, b)
	}
}

func TestPlansComeBack(t *testing.T) {
	for _, p := range somePlans() {
		comesBack(t, p)
	}
	r := rand.New(rand.NewSource(7))
	for range 10_000 {
		comesBack(t, anyPlan(r))
	}
}

func TestBytesAreThePlans(t *testing.T) {
	r := rand.New(rand.NewSource(8))
	read := 0
	for range 10_000 {
		l := numbers(anyPlan(r))
		l[r.Intn(len(l))] = r.Int63n(maxUnits) >> r.Intn(41)
		b := laid(l...)
		areIts(t, b)
		areIts(t, b[:r.Intn(len(b))])
		if _, e := plan.Get(b); e == api.OK {
			read++
		}
	}
	if read < 1_000 {
		t.Errorf("only %d were read", read)
	}
}

// Two plans that say something else have other bytes.
func TestOtherPlansHaveOtherBytes(t *testing.T) {
	seen := map[string]api.Plan{}
	r := rand.New(rand.NewSource(9))
	for i := range 5_000 {
		p := anyPlan(r)
		if i < len(somePlans()) {
			p = somePlans()[i]
		}
		b, _ := plan.Put(p)
		if q, ok := seen[string(b)]; ok && !same(p, q) {
			t.Fatalf("%v and %v have the bytes %x", p, q, b)
		}
		seen[string(b)] = p
	}
}

// Any bytes, with any free units and any roll for what is read of them.
func FuzzBytes(f *testing.F) {
	for _, p := range somePlans() {
		b := laid(numbers(p)...)
		f.Add(b, int64(70), int64(30))
		f.Add(b[1:], int64(-1), int64(-1))
	}
	f.Add([]byte{}, int64(least), int64(greatest))
	f.Fuzz(func(t *testing.T, b []byte, free, roll int64) {
		areIts(t, b)
		getsByTheBook(t, b)
		p, ok := read(b)
		if !ok {
			return
		}
		carries(t, p, free, carriedByTheBook(p, free))
		want, e := roomByTheBook(p, roll)
		hasRoom(t, p, roll, want, e)
	})
}

// Any numbers of a plan, whether it may be or not.
func FuzzPlan(f *testing.F) {
	f.Add(uint32(7), int64(10), int64(100), int64(5), int64(20), int64(1000), laid(0, 3), int64(30))
	f.Add(uint32(maxId), int64(maxUnits), int64(maxUnits), int64(maxUnits), int64(maxUnits), int64(maxMoney), laid(maxUnits, maxMoney, 0, maxMoney), int64(maxUnits))
	f.Add(uint32(0), int64(-1), int64(-1), int64(-1), int64(-1), int64(-1), laid(), int64(-1))
	f.Fuzz(func(t *testing.T, id uint32, daily, monthly, over, roll, base int64, tiers []byte, n int64) {
		p := api.Plan{Id: id, Daily: daily, Monthly: monthly, Over: over, Roll: roll, Base: base, Tiers: of(words(tiers)...)}
		isTakenAs(t, p, mayBe(p))
		if mayBe(p) {
			comesBack(t, p)
		}
		carries(t, p, n, carriedByTheBook(p, n))
		want, e := roomByTheBook(p, n)
		hasRoom(t, p, n, want, e)
	})
}
