package plan_test

import (
	"math/big"
	"math/rand"
	"testing"

	"quitrent/api"
)

// P13.2: Carry, Room.

// someUnits are numbers of units about 0, about those of the plan 7, and about the greatest, with such as may not be.
var someUnits = []int64{
	least, least + 1, -1 << 62, -maxUnits - 1, -maxUnits, -1 << 32, -100, -2, -1, 0, 1, 2, 4, 5, 6, 9, 10, 11, 19, 20, 21, 99, 100, 101, 1 << 31, 1 << 32,
	maxUnits - 1, maxUnits, maxUnits + 1, 2 * maxUnits, maxMoney, 1 << 62, greatest - 1, greatest,
}

func TestKnownCarries(t *testing.T) {
	for _, x := range []struct{ free, want int64 }{
		{70, 30}, {130, 0},
		{-1, 100}, {-2, 100}, {-100, 100}, {least, 100}, {least + 1, 100}, {least + 100, 100}, {0, 100}, {1, 99}, {50, 50}, {99, 1}, {100, 0}, {101, 0},
		{maxUnits, 0}, {1 << 32, 0}, {1<<32 + 70, 0}, {greatest - 100, 0}, {greatest, 0},
	} {
		carries(t, seven(), x.free, x.want)
	}
	full := with(func(p *api.Plan) { p.Monthly = maxUnits })
	for _, x := range []struct{ free, want int64 }{{-1, maxUnits}, {0, maxUnits}, {1, maxUnits - 1}, {maxUnits - 1, 1}, {maxUnits, 0}, {maxUnits + 1, 0}, {least, maxUnits}, {greatest, 0}} {
		carries(t, full, x.free, x.want)
	}
	none := with(func(p *api.Plan) { p.Monthly = 0 })
	for _, free := range someUnits {
		carries(t, none, free, 0)
	}
}

// Neither Roll nor anything else of a plan but Monthly bounds what is carried on.
func TestCarryHangsOnMonthlyAlone(t *testing.T) {
	r := rand.New(rand.NewSource(3))
	for range 2_000 {
		p := anyPlan(r)
		p.Monthly = 100
		carries(t, p, 70, 30)
		carries(t, p, 130, 0)
		carries(t, p, -1, 100)
	}
	carries(t, api.Plan{Monthly: 100}, 70, 30)
}

// carriedByTheBook is what is carried on, of any numbers.
func carriedByTheBook(p api.Plan, free int64) int64 {
	if free < 0 {
		return p.Monthly
	}
	rest := new(big.Int).Sub(big.NewInt(p.Monthly), big.NewInt(free))
	if rest.Sign() < 0 {
		return 0
	}
	return rest.Int64()
}

// Also of a Monthly that may not be, where the difference would go round.
func TestCarriesByTheBook(t *testing.T) {
	for _, monthly := range someUnits {
		p := with(func(p *api.Plan) { p.Monthly = monthly })
		for _, free := range someUnits {
			carries(t, p, free, carriedByTheBook(p, free))
		}
		for free := monthly - 2; monthly > least+2 && monthly < greatest-2 && free <= monthly+2; free++ {
			carries(t, p, free, carriedByTheBook(p, free))
		}
	}
	r := rand.New(rand.NewSource(4))
	for range 5_000 {
		p, free := anyPlan(r), int64(r.Uint64())>>r.Intn(64)
		carries(t, p, free, carriedByTheBook(p, free))
	}
}

func TestKnownRooms(t *testing.T) {
	for _, x := range []struct{ roll, want int64 }{
		{30, 120}, {5, 105}, {0, 100}, {1, 101}, {19, 119}, {20, 120}, {21, 120}, {100, 120}, {1 << 32, 120}, {maxUnits - 1, 120}, {maxUnits, 120},
	} {
		hasRoom(t, seven(), x.roll, x.want, api.OK)
	}
	for _, roll := range []int64{-1, -2, -20, -1 << 32, least, least + 1, least + 20, maxUnits + 1, maxUnits + 20, 2 * maxUnits, 1 << 62, greatest} {
		hasRoom(t, seven(), roll, 0, api.ErrArg)
	}
}

func TestRoomsAtTheBounds(t *testing.T) {
	for _, x := range []struct{ monthly, most, roll, want int64 }{
		{maxUnits, maxUnits, maxUnits, 2 * maxUnits}, {maxUnits, maxUnits, maxUnits - 1, 2*maxUnits - 1}, {maxUnits, maxUnits - 1, maxUnits, 2*maxUnits - 1}, {maxUnits - 1, maxUnits, maxUnits, 2*maxUnits - 1},
		{maxUnits, 0, maxUnits, maxUnits}, {maxUnits, maxUnits, 0, maxUnits}, {0, maxUnits, maxUnits, maxUnits}, {0, 0, maxUnits, 0}, {0, maxUnits, 0, 0}, {0, 0, 0, 0}, {0, 1, 1, 1}, {1, 0, 1, 1},
	} {
		hasRoom(t, with(func(p *api.Plan) { p.Monthly, p.Roll = x.monthly, x.most }), x.roll, x.want, api.OK)
	}
}

// Nothing of a plan but Monthly and Roll is of its room.
func TestRoomHangsOnMonthlyAndRoll(t *testing.T) {
	r := rand.New(rand.NewSource(5))
	for range 2_000 {
		p := anyPlan(r)
		p.Monthly, p.Roll = 100, 20
		hasRoom(t, p, 30, 120, api.OK)
		hasRoom(t, p, 5, 105, api.OK)
		hasRoom(t, p, -1, 0, api.ErrArg)
	}
}

// roomByTheBook is a plan's room, of any numbers.
func roomByTheBook(p api.Plan, roll int64) (int64, api.Errno) {
	if !mayBe(p) || roll < 0 || roll > maxUnits {
		return 0, api.ErrArg
	}
	if roll > p.Roll {
		roll = p.Roll
	}
	return p.Monthly + roll, api.OK
}

func TestRoomsByTheBook(t *testing.T) {
	for _, monthly := range someUnits {
		for _, most := range someUnits {
			p := with(func(p *api.Plan) { p.Monthly, p.Roll = monthly, most })
			for _, roll := range someUnits {
				want, e := roomByTheBook(p, roll)
				hasRoom(t, p, roll, want, e)
			}
		}
	}
	r := rand.New(rand.NewSource(6))
	for range 5_000 {
		p, roll := anyPlan(r), r.Int63n(2*maxUnits)>>r.Intn(42)
		want, e := roomByTheBook(p, roll)
		hasRoom(t, p, roll, want, e)
	}
}

// With a roll that may be, and with one that may not.
func TestRoomOfPlansThatMayNotBe(t *testing.T) {
	var wrong []api.Plan
	for _, tiers := range noTiers {
		wrong = append(wrong, with(func(p *api.Plan) { p.Tiers = tiers }))
	}
	for _, x := range bounds {
		for _, n := range []int64{least, -1, x.most + 1, greatest} {
			wrong = append(wrong, with(func(p *api.Plan) { *x.at(p) = n }))
		}
	}
	for _, p := range append(wrong, api.Plan{}, with(func(p *api.Plan) { p.Id = 0 })) {
		for _, roll := range someUnits {
			hasRoom(t, p, roll, 0, api.ErrArg)
		}
	}
}
