package entry_test

import (
	"math"
	"math/rand"
	"slices"
	"testing"

	"quitrent/api"
	"quitrent/entry"
)

// P14.1, P14.2: PutPosting, GetPosting.

func postings() layout[api.Posting] {
	return layout[api.Posting]{"Posting", entry.PutPosting, entry.GetPosting, postingPieces, postingMayBe, readPosting, samePosting, lentPosting, somePostings, anyPosting}
}

// two is a posting of two parts.
func two() api.Posting {
	return api.Posting{Seq: 1, Time: 2, Tenant: 3, Parts: []api.Part{{Account: "a", Amount: 5}, {Account: "bc", Amount: -5}}}
}

// posting is that of which something is changed.
func posting(change func(p *api.Posting)) api.Posting {
	p := two()
	change(&p)
	return p
}

// parts are so many, no two of which are the same.
func parts(n int) []api.Part {
	var l []api.Part
	for i := range n {
		l = append(l, api.Part{Account: a(1 + i%maxName), Amount: int64(i + 1)})
	}
	return l
}

func postingPieces(p api.Posting) []piece {
	l := []piece{
		number("Seq", int64(p.Seq), 0),
		number("Time", p.Time, -1, -2, least, -maxTime, maxTime+1, 2*maxTime, greatest, least+p.Time),
		id("Tenant", p.Tenant),
		count(len(p.Parts), maxParts),
	}
	for _, x := range p.Parts {
		n := uint32(len(x.Account))
		l = append(l,
			piece{"length", length(n), [][]byte{length(0), length(maxName + 1), length(1 << 16), length(1 << 31), length(math.MaxUint32), length(n | 1<<24), length(n | 1<<31)}},
			piece{"account", []byte(x.Account), [][]byte{{}, []byte(a(maxName + 1)), []byte(x.Account + "a")}},
			number("Amount", x.Amount, 0, maxAmount+1, -maxAmount-1, greatest, least, least+1),
		)
	}
	return l
}

func postingMayBe(p api.Posting) bool {
	if p.Seq < 1 || p.Time < 0 || p.Time > maxTime || len(p.Parts) < 1 || len(p.Parts) > maxParts {
		return false
	}
	return !slices.ContainsFunc(p.Parts, func(x api.Part) bool {
		return len(x.Account) < 1 || len(x.Account) > maxName || x.Amount == 0 || x.Amount < -maxAmount || x.Amount > maxAmount
	})
}

func readPosting(c *cursor) api.Posting {
	var p api.Posting
	p.Seq = uint64(c.number())
	p.Time = c.number()
	p.Tenant = c.id()
	c.some(maxParts, func() {
		account := c.text()
		p.Parts = append(p.Parts, api.Part{Account: account, Amount: c.number()})
	})
	return p
}

func samePosting(p, q api.Posting) bool {
	return p.Seq == q.Seq && p.Time == q.Time && p.Tenant == q.Tenant && slices.Equal(p.Parts, q.Parts)
}

func lentPosting(p api.Posting) (api.Posting, func() bool) {
	behind := api.Part{Account: "behind", Amount: -77}
	whole := append(slices.Clone(p.Parts), behind, behind)
	was := append(slices.Clone(p.Parts), behind, behind)
	p.Parts = whole[:len(p.Parts)]
	return p, func() bool { return slices.Equal(whole, was) }
}

// somePostings are such as may be: those with the least numbers and with the greatest ones, with few parts and with many, and with names of any bytes.
func somePostings() []api.Posting {
	full := api.Posting{Seq: math.MaxUint64, Time: maxTime, Tenant: maxId}
	for i := range maxParts {
		full.Parts = append(full.Parts, api.Part{Account: a(maxName), Amount: maxAmount * int64(1-i%2*2)})
	}
	return []api.Posting{
		two(), full,
		{Seq: 1, Parts: []api.Part{{Account: "a", Amount: 1}}},
		{Seq: 1 << 63, Time: maxTime - 1, Tenant: 1 << 31, Parts: []api.Part{{Account: "a", Amount: -maxAmount}}},
		{Seq: 0x0102030405060708, Time: 0x090a0b0c0d, Tenant: 0x0e0f1011, Parts: []api.Part{{Account: "\x12\x13\x14", Amount: 0x15161718191a1b1c}, {Account: "\x1d", Amount: -0x1e1f202122232425}}},
		posting(func(p *api.Posting) { p.Parts = parts(maxParts) }),
		posting(func(p *api.Posting) { p.Parts[0].Account, p.Parts[1].Account = "\x00", "\xff\xfe/ A\x00é" }),
		posting(func(p *api.Posting) { p.Parts[1] = p.Parts[0] }),
	}
}

func anyPosting(r *rand.Rand) api.Posting {
	p := api.Posting{Seq: 1 + (r.Uint64()>>r.Intn(64))>>1, Time: r.Int63n(maxTime+1) >> r.Intn(39), Tenant: anyId(r)}
	for range 1 + r.Intn(maxParts) {
		amount := 1 + r.Int63n(maxAmount)>>r.Intn(63)
		if r.Intn(2) == 0 {
			amount = -amount
		}
		p.Parts = append(p.Parts, api.Part{Account: anyText(r, 1, maxName), Amount: amount})
	}
	return p
}

func TestPostingsSeq(t *testing.T) {
	for _, p := range somePostings() {
		for _, x := range []bound[uint64]{{0, false}, {1, true}, {2, true}, {1<<32 - 1, true}, {1 << 32, true}, {1<<63 - 1, true}, {1 << 63, true}, {math.MaxUint64 - 1, true}, {math.MaxUint64, true}} {
			p.Seq = x.n
			postings().isTakenIf(t, p, x.ok)
		}
	}
}

func TestPostingsTime(t *testing.T) {
	for _, p := range somePostings() {
		for _, x := range []bound[int64]{
			{least, false}, {-maxTime, false}, {-2, false}, {-1, false}, {0, true}, {1, true}, {1 << 32, true},
			{maxTime - 1, true}, {maxTime, true}, {maxTime + 1, false}, {2 * maxTime, false}, {greatest, false},
		} {
			p.Time = x.n
			postings().isTakenIf(t, p, x.ok)
		}
	}
}

// Whichever it is, 0 too.
func TestPostingsTenant(t *testing.T) {
	for _, p := range somePostings() {
		for _, n := range []uint32{0, 1, 2, 1<<31 - 1, 1 << 31, maxId - 1, maxId} {
			p.Tenant = n
			postings().isTaken(t, p)
		}
	}
}

func TestPostingsParts(t *testing.T) {
	postings().isRefused(t, posting(func(p *api.Posting) { p.Parts = []api.Part{} }))
	for n := range 3 * maxParts {
		p := posting(func(p *api.Posting) { p.Parts = parts(n) })
		postings().isTakenIf(t, p, n >= 1 && n <= maxParts)
	}
	postings().isRefused(t, posting(func(p *api.Posting) { p.Parts = parts(100_000) }))
}

// Of each part alone.
func TestPostingsAccounts(t *testing.T) {
	for _, p := range somePostings() {
		for i := range p.Parts {
			for n := range 3 * maxName {
				p.Parts[i].Account = a(n)
				postings().isTakenIf(t, p, n >= 1 && n <= maxName)
			}
			for _, name := range []string{"\x00", "/", "Use", "use/01", " ", "use/1/", "\xff\xff", "é", "€", "\U0001f600", string(make([]byte, maxName))} {
				p.Parts[i].Account = name
				postings().isTaken(t, p)
			}
			// The bytes count, not the runes.
			for _, name := range []string{a(maxName-1) + "é", "ééééééééééééééééé", string(make([]byte, maxName+1)), a(1 << 16)} {
				p.Parts[i].Account = name
				postings().isRefused(t, p)
			}
			p.Parts[i].Account = "a"
		}
	}
	for n := range 256 {
		postings().isTaken(t, posting(func(p *api.Posting) { p.Parts[0].Account = string([]byte{byte(n)}) }))
	}
}

// Of each part alone.
func TestPostingsAmounts(t *testing.T) {
	for _, p := range somePostings() {
		for i := range p.Parts {
			for _, x := range []bound[int64]{
				{0, false}, {1, true}, {-1, true}, {2, true}, {1 << 32, true}, {-1 << 32, true}, {1 << 50, true}, {1<<50 + 1, true}, {-1<<50 - 1, true},
				{maxAmount - 1, true}, {maxAmount, true}, {maxAmount + 1, false}, {greatest - 1, false}, {greatest, false},
				{-maxAmount + 1, true}, {-maxAmount, true}, {-maxAmount - 1, false}, {least + 1, false}, {least, false},
			} {
				p.Parts[i].Amount = x.n
				postings().isTakenIf(t, p, x.ok)
			}
			p.Parts[i].Amount = 7
		}
	}
}

// Neither what the parts come to, nor an account that is there twice, is looked at here.
func TestPostingsThatNobodyMayPost(t *testing.T) {
	for _, l := range [][]api.Part{
		{{Account: "a", Amount: 5}, {Account: "b", Amount: 5}},
		{{Account: "a", Amount: 5}, {Account: "a", Amount: -5}},
		{{Account: "use/1", Amount: maxAmount}, {Account: "due/1", Amount: maxAmount}, {Account: "free", Amount: maxAmount}},
	} {
		postings().isTaken(t, posting(func(p *api.Posting) { p.Parts = l }))
	}
}

func TestKnownPostings(t *testing.T) {
	for _, x := range []struct {
		p    api.Posting
		text string
	}{
		{two(), `0000000000000001 0000000000000002 0000000000000003 0000000000000002
			00000001 61 0000000000000005 00000002 6263 fffffffffffffffb`},
		{api.Posting{Seq: math.MaxUint64, Time: maxTime, Tenant: maxId, Parts: []api.Part{{Account: "use/1", Amount: maxAmount}, {Account: "\x00\xff", Amount: -maxAmount}}},
			`ffffffffffffffff 0000002000000000 00000000ffffffff 0000000000000002
			00000005 7573652f31 4000000000000000 00000002 00ff c000000000000000`},
		{api.Posting{Seq: 1, Parts: []api.Part{{Account: "a", Amount: -1}}}, `0000000000000001 0000000000000000 0000000000000000 0000000000000001 00000001 61 ffffffffffffffff`},
	} {
		postings().puts(t, x.p, raw(t, x.text), api.OK)
		postings().gets(t, raw(t, x.text), x.p, api.OK)
	}
}

// A posting of which one field is another one has bytes that differ there alone.
func TestPostingsNumberByNumber(t *testing.T) {
	for at, change := range map[int]func(p *api.Posting){
		0: func(p *api.Posting) { p.Seq = 99 }, 1: func(p *api.Posting) { p.Time = 99 }, 2: func(p *api.Posting) { p.Tenant = 99 },
		6: func(p *api.Posting) { p.Parts[0].Amount = 99 }, 9: func(p *api.Posting) { p.Parts[1].Amount = 99 },
	} {
		p, b := posting(change), turned(postingPieces(two()), at, word(99))
		postings().puts(t, p, b, api.OK)
		postings().gets(t, b, p, api.OK)
	}
	for at, i := range map[int]int{5: 0, 8: 1} {
		for _, name := range []string{"x", "xy", a(maxName)} {
			p := posting(func(p *api.Posting) { p.Parts[i].Account = name })
			l := postingPieces(two())
			l[at-1].bytes = length(uint32(len(name)))
			b := turned(l, at, []byte(name))
			postings().puts(t, p, b, api.OK)
			postings().gets(t, b, p, api.OK)
		}
	}
}

// Any length of an account, with any number of bytes behind it.
func TestGetPostingOfLengthsThatDoNotFit(t *testing.T) {
	head := laid(postingPieces(two())[:3])
	head = append(head, word(1)...)
	for size := range 50 {
		for behind := range 50 {
			b := slices.Concat(head, length(uint32(size)), []byte(a(behind)), word(7))
			if size == behind && size >= 1 && size <= maxName {
				postings().gets(t, b, posting(func(p *api.Posting) { p.Parts = []api.Part{{Account: a(size), Amount: 7}} }), api.OK)
				continue
			}
			postings().isNone(t, b)
		}
		for _, n := range []uint32{1 << 8, 1 << 16, 1 << 24, 1 << 31, 1<<24 + uint32(size), 1<<31 + uint32(size), math.MaxUint32} {
			postings().isNone(t, slices.Concat(head, length(n), []byte(a(size)), word(7)))
		}
	}
}

// Any count of parts, with any number of them behind it.
func TestGetPostingOfCountsThatDoNotFit(t *testing.T) {
	head := laid(postingPieces(two())[:3])
	for behind := range maxParts + 4 {
		p := posting(func(p *api.Posting) { p.Parts = parts(behind) })
		tail := laid(postingPieces(p)[4:])
		for n := int64(-2); n < maxParts+5; n++ {
			b := slices.Concat(head, word(n), tail)
			if int(n) == behind && n >= 1 && n <= maxParts {
				postings().gets(t, b, p, api.OK)
				continue
			}
			postings().isNone(t, b)
		}
		for _, n := range []int64{1 << 31, 1<<31 - 1, 1 << 32, 1<<32 + int64(behind), 1 << 60, 1<<61 + 1, greatest, least, least + int64(behind)} {
			postings().isNone(t, slices.Concat(head, word(n), tail))
		}
	}
}
