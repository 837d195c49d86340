package entry_test

import (
	"math/rand"
	"slices"
	"testing"

	"quitrent/api"
	"quitrent/entry"
)

// P14.1, P14.2: PutInvoice, GetInvoice.

func invoices() layout[api.Invoice] {
	return layout[api.Invoice]{"Invoice", entry.PutInvoice, entry.GetInvoice, invoicePieces, invoiceMayBe, readInvoice, sameInvoice, lentInvoice, someInvoices, anyInvoice}
}

// three is an invoice of a line of each kind.
func three() api.Invoice {
	return api.Invoice{No: 1, Tenant: 2, Month: 3, Total: 16, Credited: 4, Lines: []api.Line{
		{Kind: 1, Plan: 5, Days: 31, Units: 7, Amount: 8}, {Kind: 2, Units: 9}, {Kind: 3, Plan: 10, Days: 11, Units: 12, Amount: 8},
	}}
}

// invoice is that of which something is changed.
func invoice(change func(v *api.Invoice)) api.Invoice {
	v := three()
	change(&v)
	return v
}

// lines are so many, no two of which are the same.
func lines(n int) []api.Line {
	var l []api.Line
	for i := range int64(n) {
		l = append(l, api.Line{Kind: uint8(1 + i%3), Plan: uint32(i), Days: i + 1, Units: i + 2, Amount: i + 3})
	}
	return l
}

// amount is a number that is not negative.
func amount(name string, n int64) piece {
	return number(name, n, -1, -2, -1<<32, -maxAmount, least, least+1, least+n)
}

func invoicePieces(v api.Invoice) []piece {
	l := []piece{
		id("No", v.No, 0), id("Tenant", v.Tenant, 0), number("Month", v.Month),
		amount("Total", v.Total), amount("Credited", v.Credited), count(len(v.Lines), maxLines),
	}
	for _, x := range v.Lines {
		l = append(l,
			piece{"Kind", []byte{x.Kind}, [][]byte{{0}, {4}, {5}, {127}, {128}, {254}, {255}, {x.Kind | 4}, {x.Kind | 128}}},
			id("Plan", x.Plan), amount("Days", x.Days), amount("Units", x.Units), amount("Amount", x.Amount),
		)
	}
	return l
}

func invoiceMayBe(v api.Invoice) bool {
	if v.No < 1 || v.Tenant < 1 || len(v.Lines) > maxLines || min(v.Total, v.Credited) < 0 {
		return false
	}
	return !slices.ContainsFunc(v.Lines, func(x api.Line) bool {
		return x.Kind < 1 || x.Kind > 3 || min(x.Days, x.Units, x.Amount) < 0
	})
}

func readInvoice(c *cursor) api.Invoice {
	var v api.Invoice
	v.No = c.id()
	v.Tenant = c.id()
	v.Month = c.number()
	v.Total = c.number()
	v.Credited = c.number()
	c.some(maxLines, func() {
		var x api.Line
		x.Kind = c.small()
		x.Plan = c.id()
		x.Days = c.number()
		x.Units = c.number()
		x.Amount = c.number()
		v.Lines = append(v.Lines, x)
	})
	return v
}

func sameInvoice(v, w api.Invoice) bool {
	return v.No == w.No && v.Tenant == w.Tenant && v.Month == w.Month && v.Total == w.Total && v.Credited == w.Credited && slices.Equal(v.Lines, w.Lines)
}

func lentInvoice(v api.Invoice) (api.Invoice, func() bool) {
	behind := api.Line{Kind: 77, Units: -78}
	whole := append(slices.Clone(v.Lines), behind, behind)
	was := append(slices.Clone(v.Lines), behind, behind)
	v.Lines = whole[:len(v.Lines)]
	return v, func() bool { return slices.Equal(whole, was) }
}

// someInvoices are such as may be: those with the least numbers and with the greatest ones, with no lines, with few and with many.
func someInvoices() []api.Invoice {
	full := api.Invoice{No: maxId, Tenant: maxId, Month: greatest, Total: greatest, Credited: greatest}
	for range maxLines {
		full.Lines = append(full.Lines, api.Line{Kind: 3, Plan: maxId, Days: greatest, Units: greatest, Amount: greatest})
	}
	return []api.Invoice{
		three(), full,
		{No: 1, Tenant: 1},
		{No: 1, Tenant: 1, Month: least, Lines: []api.Line{{Kind: 1}}},
		{No: 0x01020304, Tenant: 0x05060708, Month: -0x090a0b0c0d0e0f10, Total: 0x1112131415161718, Credited: 0x191a1b1c1d1e1f20, Lines: []api.Line{
			{Kind: 3, Plan: 0x21222324, Days: 0x25262728292a2b2c, Units: 0x2d2e2f3031323334, Amount: 0x35363738393a3b3c}, {Kind: 2, Plan: 0x3d3e3f40, Days: 0x4142434445464748, Units: 0x494a4b4c4d4e4f50, Amount: 0x5152535455565758},
		}},
		invoice(func(v *api.Invoice) { v.Lines = lines(maxLines) }),
		invoice(func(v *api.Invoice) { v.Total, v.Credited = 3, 5 }),
	}
}

func anyInvoice(r *rand.Rand) api.Invoice {
	n := func() int64 { return r.Int63() >> r.Intn(63) }
	v := api.Invoice{No: 1 + anyId(r)>>1, Tenant: 1 + anyId(r)>>1, Month: anyNumber(r), Total: n(), Credited: n()}
	for range r.Intn(maxLines + 1) {
		v.Lines = append(v.Lines, api.Line{Kind: uint8(1 + r.Intn(3)), Plan: anyId(r), Days: n(), Units: n(), Amount: n()})
	}
	return v
}

// Each of them alone, of no tenant and of no No.
func TestInvoicesNoAndTenant(t *testing.T) {
	for _, at := range []func(v *api.Invoice) *uint32{func(v *api.Invoice) *uint32 { return &v.No }, func(v *api.Invoice) *uint32 { return &v.Tenant }} {
		for _, v := range someInvoices() {
			for n, ok := range map[uint32]bool{0: false, 1: true, 2: true, 255: true, 256: true, 1<<31 - 1: true, 1 << 31: true, maxId - 1: true, maxId: true} {
				*at(&v) = n
				invoices().isTakenIf(t, v, ok)
			}
		}
	}
}

// Whichever it is.
func TestInvoicesMonth(t *testing.T) {
	for _, v := range someInvoices() {
		for _, n := range []int64{least, least + 1, -1 << 32, -1, 0, 1, 24288, 1 << 32, greatest - 1, greatest} {
			v.Month = n
			invoices().isTaken(t, v)
		}
	}
}

func TestInvoicesLines(t *testing.T) {
	invoices().isTaken(t, invoice(func(v *api.Invoice) { v.Lines = []api.Line{} }))
	for n := range 3 * maxLines {
		v := invoice(func(v *api.Invoice) { v.Lines = lines(n) })
		invoices().isTakenIf(t, v, n <= maxLines)
	}
	invoices().isRefused(t, invoice(func(v *api.Invoice) { v.Lines = lines(100_000) }))
}

// Of each line alone.
func TestInvoicesKinds(t *testing.T) {
	for _, v := range someInvoices() {
		for i := range v.Lines {
			for _, kind := range []uint8{0, 1, 2, 3, 4, 5, 128, 129, 255} {
				v.Lines[i].Kind = kind
				invoices().isTakenIf(t, v, kind >= 1 && kind <= 3)
			}
			v.Lines[i].Kind = 2
		}
	}
	for kind := range 256 {
		invoices().isTakenIf(t, invoice(func(v *api.Invoice) { v.Lines[2].Kind = uint8(kind) }), kind >= 1 && kind <= 3)
	}
	for _, x := range []bound[uint8]{{api.LineBase - 1, false}, {api.LineBase, true}, {api.LinePack, true}, {api.LineOver, true}, {api.LineOver + 1, false}} {
		invoices().isTakenIf(t, invoice(func(v *api.Invoice) { v.Lines[1].Kind = x.n }), x.ok)
	}
}

// Of each line alone, whichever it is, 0 too.
func TestInvoicesPlans(t *testing.T) {
	for _, v := range someInvoices() {
		for i := range v.Lines {
			for _, n := range []uint32{0, 1, 1<<31 - 1, 1 << 31, maxId - 1, maxId} {
				v.Lines[i].Plan = n
				invoices().isTaken(t, v)
			}
		}
	}
}

// Each of them alone, those of each line too.
func TestInvoicesAmounts(t *testing.T) {
	for at := range 2 + 3*maxLines {
		for _, v := range someInvoices() {
			all := []*int64{&v.Total, &v.Credited}
			for i := range v.Lines {
				all = append(all, &v.Lines[i].Days, &v.Lines[i].Units, &v.Lines[i].Amount)
			}
			if at >= len(all) {
				continue
			}
			for n, ok := range map[int64]bool{least: false, least + 1: false, -1 << 32: false, -2: false, -1: false, 0: true, 1: true, 1 << 32: true, maxAmount: true, maxAmount + 1: true, greatest - 1: true, greatest: true} {
				*all[at] = n
				invoices().isTakenIf(t, v, ok)
			}
		}
	}
}

func TestKnownInvoices(t *testing.T) {
	for _, x := range []struct {
		v    api.Invoice
		text string
	}{
		{three(), `0000000000000001 0000000000000002 0000000000000003 0000000000000010 0000000000000004 0000000000000003
			01 0000000000000005 000000000000001f 0000000000000007 0000000000000008
			02 0000000000000000 0000000000000000 0000000000000009 0000000000000000
			03 000000000000000a 000000000000000b 000000000000000c 0000000000000008`},
		{api.Invoice{No: 1, Tenant: 1, Month: -2}, `0000000000000001 0000000000000001 fffffffffffffffe 0000000000000000 0000000000000000 0000000000000000`},
		{api.Invoice{No: maxId, Tenant: maxId - 1, Month: least, Total: greatest, Credited: greatest - 1, Lines: []api.Line{{Kind: 3, Plan: maxId, Days: greatest, Units: greatest - 1, Amount: greatest - 2}}},
			`00000000ffffffff 00000000fffffffe 8000000000000000 7fffffffffffffff 7ffffffffffffffe 0000000000000001
			03 00000000ffffffff 7fffffffffffffff 7ffffffffffffffe 7ffffffffffffffd`},
	} {
		invoices().puts(t, x.v, raw(t, x.text), api.OK)
		invoices().gets(t, raw(t, x.text), x.v, api.OK)
	}
}

// An invoice of which one field is another one has bytes that differ there alone.
func TestInvoicesNumberByNumber(t *testing.T) {
	changes := map[int]func(v *api.Invoice){
		0: func(v *api.Invoice) { v.No = 99 }, 1: func(v *api.Invoice) { v.Tenant = 99 }, 2: func(v *api.Invoice) { v.Month = 99 },
		3: func(v *api.Invoice) { v.Total = 99 }, 4: func(v *api.Invoice) { v.Credited = 99 },
	}
	for i := range 3 {
		changes[7+5*i] = func(v *api.Invoice) { v.Lines[i].Plan = 99 }
		changes[8+5*i] = func(v *api.Invoice) { v.Lines[i].Days = 99 }
		changes[9+5*i] = func(v *api.Invoice) { v.Lines[i].Units = 99 }
		changes[10+5*i] = func(v *api.Invoice) { v.Lines[i].Amount = 99 }
	}
	for at, change := range changes {
		v, b := invoice(change), turned(invoicePieces(three()), at, word(99))
		invoices().puts(t, v, b, api.OK)
		invoices().gets(t, b, v, api.OK)
	}
	for i := range 3 {
		for kind := uint8(1); kind <= 3; kind++ {
			v, b := invoice(func(v *api.Invoice) { v.Lines[i].Kind = kind }), turned(invoicePieces(three()), 6+5*i, []byte{kind})
			invoices().puts(t, v, b, api.OK)
			invoices().gets(t, b, v, api.OK)
		}
	}
}

// Any count of lines, with any number of them behind it.
func TestGetInvoiceOfCountsThatDoNotFit(t *testing.T) {
	head := laid(invoicePieces(three())[:5])
	for behind := range maxLines + 4 {
		v := invoice(func(v *api.Invoice) { v.Lines = lines(behind) })
		tail := laid(invoicePieces(v)[6:])
		for n := int64(-2); n < maxLines+5; n++ {
			b := slices.Concat(head, word(n), tail)
			if int(n) == behind && n <= maxLines {
				invoices().gets(t, b, v, api.OK)
				continue
			}
			invoices().isNone(t, b)
		}
		for _, n := range []int64{1 << 31, 1<<31 - 1, 1 << 32, 1<<32 + int64(behind), 1 << 60, 1<<61 + 1, greatest, least, least + int64(behind)} {
			invoices().isNone(t, slices.Concat(head, word(n), tail))
		}
	}
}
