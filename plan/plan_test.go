package plan_test

import (
	"bytes"
	"encoding/hex"
	"math/rand"
	"slices"
	"strings"
	"testing"

	"quitrent/api"
	"quitrent/plan"
)

// P13.1: Check, Put, Get.

func TestPlansThatMayBe(t *testing.T) {
	for _, p := range somePlans() {
		isTakenAs(t, p, true)
		gets(t, laid(numbers(p)...), p, api.OK)
	}
	r := rand.New(rand.NewSource(1))
	for range 5_000 {
		p := anyPlan(r)
		isTakenAs(t, p, true)
		gets(t, laid(numbers(p)...), p, api.OK)
	}
}

// The numbers of a plan but its Id and those of its tiers: each one's bound, and where it stands.
var bounds = []struct {
	name string
	most int64
	at   func(p *api.Plan) *int64
}{
	{"Daily", maxUnits, func(p *api.Plan) *int64 { return &p.Daily }},
	{"Monthly", maxUnits, func(p *api.Plan) *int64 { return &p.Monthly }},
	{"Over", maxUnits, func(p *api.Plan) *int64 { return &p.Over }},
	{"Roll", maxUnits, func(p *api.Plan) *int64 { return &p.Roll }},
	{"Base", maxMoney, func(p *api.Plan) *int64 { return &p.Base }},
}

func TestOneNumberAlone(t *testing.T) {
	for _, x := range bounds {
		t.Run(x.name, func(t *testing.T) {
			for _, p := range somePlans() {
				for n, want := range map[int64]bool{
					least: false, least + 1: false, -x.most: false, -1 << 32: false, -2: false, -1: false,
					0: true, 1: true, 1 << 32: true, x.most - 1: true, x.most: true,
					x.most + 1: false, 2 * x.most: false, 1 << 62: false, greatest - 1: false, greatest: false,
				} {
					*x.at(&p) = n
					isTakenAs(t, p, want)
				}
			}
		})
	}
}

func TestIdAlone(t *testing.T) {
	for _, p := range somePlans() {
		for id, want := range map[uint32]bool{0: false, 1: true, 2: true, 255: true, 1<<31 - 1: true, 1 << 31: true, maxId - 1: true, maxId: true} {
			p.Id = id
			isTakenAs(t, p, want)
		}
	}
}

func TestTiersAlone(t *testing.T) {
	for _, p := range somePlans() {
		for _, tiers := range someTiers {
			p.Tiers = tiers
			isTakenAs(t, p, true)
		}
		for _, tiers := range noTiers {
			p.Tiers = tiers
			isTakenAs(t, p, false)
		}
	}
	isTakenAs(t, api.Plan{}, false)
}

// All plans of these numbers, of which some may be.
func TestNumbersTogether(t *testing.T) {
	units, amounts := []int64{-1, 0, maxUnits, maxUnits + 1}, []int64{-1, 0, maxMoney, maxMoney + 1}
	found := 0
	for _, p := range []api.Plan{{Id: 0, Tiers: of(0, 1)}, {Id: 1, Tiers: of(0, 1)}, {Id: 1, Tiers: of(1, 1)}, {Id: maxId, Tiers: of(5, 1, 0, 1)}} {
		for i := range 4 * 4 * 4 * 4 * 4 {
			p.Daily, p.Monthly, p.Over, p.Roll, p.Base = units[i%4], units[i/4%4], units[i/16%4], units[i/64%4], amounts[i/256]
			if mayBe(p) {
				found++
			}
			isTakenAs(t, p, mayBe(p))
		}
	}
	if found != 2*2*2*2*2*2 {
		t.Errorf("%d may be", found)
	}
}

func TestKnownBytes(t *testing.T) {
	for _, x := range []struct {
		p    api.Plan
		text string
	}{
		{seven(), `0000000000000007 000000000000000a 0000000000000064 0000000000000005 0000000000000014 00000000000003e8
			0000000000000001 0000000000000000 0000000000000003`},
		{api.Plan{Id: 1, Tiers: of(0, 0)}, `0000000000000001 0000000000000000 0000000000000000 0000000000000000 0000000000000000 0000000000000000
			0000000000000001 0000000000000000 0000000000000000`},
		{with(func(p *api.Plan) { p.Tiers = of(10, 3, 0, 1) }), `0000000000000007 000000000000000a 0000000000000064 0000000000000005 0000000000000014 00000000000003e8
			0000000000000002 000000000000000a 0000000000000003 0000000000000000 0000000000000001`},
		{api.Plan{Id: maxId, Daily: maxUnits, Monthly: maxUnits - 1, Over: maxUnits - 2, Roll: maxUnits - 3, Base: maxMoney, Tiers: of(1, 5, 2, 6, maxUnits, maxMoney, 0, maxMoney-1)},
			`00000000ffffffff 0000010000000000 000000ffffffffff 000000fffffffffe 000000fffffffffd 0004000000000000
			0000000000000004 0000000000000001 0000000000000005 0000000000000002 0000000000000006 0000010000000000 0004000000000000 0000000000000000 0003ffffffffffff`},
	} {
		b, err := hex.DecodeString(strings.Join(strings.Fields(x.text), ""))
		if err != nil {
			t.Fatal(err)
		}
		puts(t, x.p, b, api.OK)
		gets(t, b, x.p, api.OK)
	}
}

// A plan of which one number is another one has bytes that differ in that number alone.
func TestBytesNumberByNumber(t *testing.T) {
	p := seven()
	p.Tiers = of(10, 3, 0, 1)
	for at, change := range []func(p *api.Plan){
		func(p *api.Plan) { p.Id = 99 }, func(p *api.Plan) { p.Daily = 99 }, func(p *api.Plan) { p.Monthly = 99 }, func(p *api.Plan) { p.Over = 99 },
		func(p *api.Plan) { p.Roll = 99 }, func(p *api.Plan) { p.Base = 99 }, nil, func(p *api.Plan) { p.Tiers[0].Upto = 99 }, func(p *api.Plan) { p.Tiers[0].Price = 99 },
		nil, func(p *api.Plan) { p.Tiers[1].Price = 99 },
	} {
		if change == nil {
			continue // how many tiers, and the last one's Upto, are what they are
		}
		q := p
		q.Tiers = slices.Clone(p.Tiers)
		change(&q)
		l := numbers(p)
		l[at] = 99
		puts(t, q, laid(l...), api.OK)
		gets(t, laid(l...), q, api.OK)
	}
}

// Of a plan's bytes any first ones, and the same with some behind them.
func TestGetOfMoreAndFewer(t *testing.T) {
	gets(t, nil, api.Plan{}, api.ErrForm)
	gets(t, []byte{}, api.Plan{}, api.ErrForm)
	for _, p := range somePlans() {
		b := laid(numbers(p)...)
		for n := range b {
			isNone(t, b[:n])
			getsByTheBook(t, b[n+1:])
		}
		for _, more := range [][]byte{{0}, {1}, {255}, laid(0), laid(0, 0), laid(0, 1), laid(numbers(p)...), bytes.Repeat([]byte{0}, 4096)} {
			isNone(t, slices.Concat(b, more))
			isNone(t, slices.Concat(more, b))
		}
	}
}

// Of a plan's bytes one number becomes one that may not be.
func TestGetOfOneNumberThatMayNotBe(t *testing.T) {
	for _, p := range somePlans() {
		last := 7 + 2*len(p.Tiers) - 2
		for at := range numbers(p) {
			wrong := []int64{-1, -2, least, least + 1, greatest, greatest - 1, 1 << 62, -maxUnits, -maxMoney}
			switch {
			case at == 0:
				wrong = append(wrong, 0, maxId+1, maxId+2, 1<<33, -1<<32, 1<<32+int64(p.Id), 1<<63-1<<32+int64(p.Id), -1<<32+int64(p.Id))
			case at == 5 || at > 6 && at%2 == 0:
				wrong = append(wrong, maxMoney+1, 2*maxMoney)
			case at == 6:
				wrong = append(wrong, 0, maxTiers+1, int64(len(p.Tiers))-1, int64(len(p.Tiers))+1, 1<<32+int64(len(p.Tiers)))
			case at == last:
				wrong = append(wrong, 1, maxUnits, maxUnits+1)
			case at > 6:
				wrong = append(wrong, 0, maxUnits+1)
			default:
				wrong = append(wrong, maxUnits+1, maxMoney)
			}
			for _, n := range wrong {
				l := numbers(p)
				l[at] = n
				isNone(t, laid(l...))
			}
		}
		for i := 1; i < len(p.Tiers)-1; i++ {
			l := numbers(p)
			l[7+2*i] = l[7+2*i-2]
			isNone(t, laid(l...))
			l[7+2*i]--
			isNone(t, laid(l...))
		}
	}
}

// Any count of tiers with any number of them behind it.
func TestGetOfCountsThatDoNotFit(t *testing.T) {
	tiers := []int64{1, 1, 2, 1, 3, 1, 4, 1, 5, 1, 6, 1}
	for count := int64(-2); count < 9; count++ {
		for behind := range len(tiers) + 1 {
			l := append([]int64{7, 10, 100, 5, 20, 1000, count}, tiers[:behind]...)
			if behind >= 2 {
				l[len(l)-2-behind%2] = 0 // the last whole one has no end
			}
			p := with(func(p *api.Plan) { p.Tiers = of(l[7 : 7+behind/2*2]...) })
			if behind%2 == 0 && int(count) == behind/2 && count >= 1 && count <= maxTiers {
				gets(t, laid(l...), p, api.OK)
				continue
			}
			isNone(t, laid(l...))
		}
	}
	for _, count := range []int64{-1, 0, 5, 1 << 31, 1 << 32, 1<<32 + 1, 1 << 61, 1<<61 + 1, greatest, least, least + 1} {
		isNone(t, laid(7, 10, 100, 5, 20, 1000, count))
		isNone(t, laid(7, 10, 100, 5, 20, 1000, count, 0, 3))
	}
}

func TestGetOfPlansThatMayNotBe(t *testing.T) {
	isNone(t, laid(numbers(api.Plan{})...))
	for _, tiers := range noTiers {
		isNone(t, laid(numbers(with(func(p *api.Plan) { p.Tiers = tiers }))...))
	}
	isNone(t, laid(numbers(with(func(p *api.Plan) { p.Id = 0 }))...))
	for _, x := range bounds {
		for _, n := range []int64{least, -1, x.most + 1, greatest} {
			isNone(t, laid(numbers(with(func(p *api.Plan) { *x.at(p) = n }))...))
		}
	}
}

// Bytes that are no plan's, and one bit, or one byte, that is another one in those that are.
func TestGetOfAnyBytes(t *testing.T) {
	for _, p := range somePlans() {
		b := laid(numbers(p)...)
		for bit := range 8 * len(b) {
			c := bytes.Clone(b)
			c[bit/8] ^= 1 << (bit % 8)
			getsByTheBook(t, c)
		}
	}
	r := rand.New(rand.NewSource(2))
	for range 20_000 {
		b := laid(numbers(anyPlan(r))...)
		switch r.Intn(3) {
		case 0:
			b[r.Intn(len(b))] = byte(r.Int())
		case 1:
			copy(b[8*r.Intn(len(b)/8):], laid(r.Int63()>>r.Intn(63)))
		default:
			b = make([]byte, r.Intn(120))
			r.Read(b)
		}
		getsByTheBook(t, b)
	}
	for size := range 200 {
		getsByTheBook(t, make([]byte, size))
		getsByTheBook(t, bytes.Repeat([]byte{1}, size))
		getsByTheBook(t, bytes.Repeat([]byte{255}, size))
	}
}

// Whoever changes what was answered, or what was handed in, changes no other answer.
func TestAnswersAreNewMemory(t *testing.T) {
	p := with(func(p *api.Plan) { p.Tiers = of(10, 3, 0, 1) })
	want := laid(numbers(p)...)
	first, _ := plan.Put(p)
	second, _ := plan.Put(p)
	clear(first[:cap(first)])
	p.Tiers[0].Price = 4
	if !bytes.Equal(second, want) {
		t.Errorf("the other bytes became %x", second)
	}
	b := bytes.Clone(want)
	one, _ := plan.Get(b)
	other, _ := plan.Get(b)
	clear(one.Tiers[:cap(one.Tiers)])
	clear(b)
	if !same(other, with(func(p *api.Plan) { p.Tiers = of(10, 3, 0, 1) })) {
		t.Errorf("the other plan became %v", other)
	}
	gets(t, want, other, api.OK)
}

// What was asked ahead leaves nothing behind.
func TestAskedAgain(t *testing.T) {
	b := laid(numbers(seven())...)
	for range 3 {
		isTakenAs(t, api.Plan{Id: 7}, false)
		isTakenAs(t, seven(), true)
		isNone(t, nil)
		isNone(t, b[1:])
		gets(t, b, seven(), api.OK)
	}
}
