package crc_test

import (
	"bytes"
	"hash/crc32"
	"math/rand"
	"slices"
	"testing"

	"quitrent/crc"
)

// byTheBook is the check as the chapter's Words tell it, bit by bit.
func byTheBook(b []byte) uint32 {
	n := ^uint32(0)
	for _, x := range b {
		for i := range 8 {
			n ^= uint32(x) >> i & 1
			if n&1 == 1 {
				n = n>>1 ^ 0x82f63b78
			} else {
				n >>= 1
			}
		}
	}
	return ^n
}

// randomBytes are n of them.
func randomBytes(random *rand.Rand, n int) []byte {
	b := make([]byte, n)
	random.Read(b)
	return b
}

// P2.1: the check that a call answers.

func TestKnownChecks(t *testing.T) {
	rising := make([]byte, 32)
	for i := range rising {
		rising[i] = byte(i)
	}
	falling := slices.Clone(rising)
	slices.Reverse(falling)
	for _, c := range []struct {
		name string
		b    []byte
		want uint32
	}{
		{"0", []byte{0}, 0x527d5351},
		{"123456789", []byte("123456789"), 0xe3069283},
		{"a", []byte("a"), 0xc1d04330},
		{"32 bytes 0", make([]byte, 32), 0x8a9136aa},
		{"32 bytes 255", bytes.Repeat([]byte{255}, 32), 0x62a8ab43},
		{"0 to 31", rising, 0x46dd794e},
		{"31 to 0", falling, 0x113fdb5c},
	} {
		if got := crc.Check(c.b); got != c.want {
			t.Errorf("Check(%s): %08x, not %08x", c.name, got, c.want)
		}
		if got := byTheBook(c.b); got != c.want {
			t.Errorf("the test's own check of %s: %08x, not %08x", c.name, got, c.want)
		}
	}
}

func TestNoBytes(t *testing.T) {
	for name, got := range map[string]uint32{
		"no list":                   crc.Check(),
		"lists that are nil":        crc.Check([][]byte(nil)...),
		"lists that are empty":      crc.Check([][]byte{}...),
		"one nil list":              crc.Check(nil),
		"one empty list":            crc.Check([]byte{}),
		"nil and empty lists":       crc.Check(nil, []byte{}, nil, []byte{}),
		"a list cut down to no one": crc.Check([]byte("abc")[:0]),
	} {
		if got != 0 {
			t.Errorf("%s: %08x, not 0", name, got)
		}
	}
}

func TestAllShortBytes(t *testing.T) {
	for i := range 256 {
		b := []byte{byte(i)}
		if got, want := crc.Check(b), byTheBook(b); got != want {
			t.Errorf("Check(%x): %08x, not %08x", b, got, want)
		}
		for j := range 256 {
			b := []byte{byte(i), byte(j)}
			if got, want := crc.Check(b), byTheBook(b); got != want {
				t.Fatalf("Check(%x): %08x, not %08x", b, got, want)
			}
		}
	}
}

func TestAllLengths(t *testing.T) {
	random := rand.New(rand.NewSource(2))
	table := crc32.MakeTable(crc32.Castagnoli)
	for n := range 600 {
		b := randomBytes(random, n)
		if got, want := crc.Check(b), byTheBook(b); got != want {
			t.Fatalf("Check(%x): %08x, not %08x", b, got, want)
		}
	}
	for _, n := range []int{4095, 4096, 4097, 1 << 20} {
		b := randomBytes(random, n)
		if got, want := crc.Check(b), crc32.Checksum(b, table); got != want {
			t.Errorf("Check of %d bytes: %08x, not %08x", n, got, want)
		}
	}
}

func TestItsBytesStay(t *testing.T) {
	whole := []byte("0123456789")
	parts := [][]byte{whole[:3], nil, whole[3:3], whole[3:7]} // with room behind them
	want := crc.Check([]byte("0123456"))
	for range 2 {
		if got := crc.Check(parts...); got != want {
			t.Errorf("%08x, not %08x", got, want)
		}
	}
	if string(whole) != "0123456789" {
		t.Errorf("bytes that were handed in are %q now", whole)
	}
	if len(parts) != 4 || string(parts[0]) != "012" || parts[1] != nil || len(parts[2]) != 0 || string(parts[3]) != "3456" {
		t.Errorf("lists that were handed in are %q now", parts)
	}
}

func TestNothingIsLeftBehind(t *testing.T) {
	b := []byte("abc")
	first := crc.Check(b)
	b[0] = 'x'
	if crc.Check(b) != byTheBook([]byte("xbc")) {
		t.Error("bytes of an earlier call play a part")
	}
	crc.Check(bytes.Repeat([]byte{7}, 1000), b)
	if crc.Check([]byte("abc")) != first || crc.Check() != 0 {
		t.Error("an earlier call plays a part")
	}
}

// P2.2: what follows.

func TestPartedAnyhow(t *testing.T) {
	b := randomBytes(rand.New(rand.NewSource(3)), 40)
	want := byTheBook(b)
	for i := range len(b) + 1 {
		for j := i; j <= len(b); j++ {
			if got := crc.Check(b[:i], b[i:j], b[j:]); got != want {
				t.Errorf("parted at %d and %d: %08x, not %08x", i, j, got, want)
			}
		}
		for _, none := range [][]byte{nil, {}} {
			if got := crc.Check(none, b[:i], none, none, b[i:], none); got != want {
				t.Errorf("parted at %d, with empty lists: %08x, not %08x", i, got, want)
			}
		}
	}
}

func TestPartedIntoMany(t *testing.T) {
	random := rand.New(rand.NewSource(4))
	b := randomBytes(random, 70000)
	want := byTheBook(b)
	for _, most := range []int{1, 2, 5, 512, 5000} {
		var parts [][]byte
		for left := b; len(left) > 0; {
			n := min(len(left), random.Intn(most+1))
			if most == 1 {
				n = 1 // each byte a list of its own
			}
			parts = append(parts, left[:n])
			left = left[n:]
		}
		if got := crc.Check(parts...); got != want {
			t.Errorf("%d parts: %08x, not %08x", len(parts), got, want)
		}
	}
}

func TestTheOrderPlaysAPart(t *testing.T) {
	if crc.Check([]byte("ab"), []byte("cd")) == crc.Check([]byte("cd"), []byte("ab")) {
		t.Error("lists the other way round have the same check")
	}
}

// turned is b, but for the bits of turn, the lowest of which stands at bit at of b (of each byte the lowest one first).
func turned(b []byte, at int, turn uint32) []byte {
	b = slices.Clone(b)
	for i := range 32 {
		if turn>>i&1 == 1 {
			b[(at+i)/8] ^= 1 << ((at + i) % 8)
		}
	}
	return b
}

// other fails where b, with these bits turned over, has the check that it had.
func other(t *testing.T, b []byte, at int, turn uint32) {
	t.Helper()
	if crc.Check(turned(b, at, turn)) == crc.Check(b) {
		t.Fatalf("%x, of whose bits %x are turned over from bit %d on, has the same check", b, turn, at)
	}
}

func TestOneBit(t *testing.T) {
	random := rand.New(rand.NewSource(5))
	for n := 1; n <= 64; n++ {
		b := randomBytes(random, n)
		for at := range 8 * n {
			other(t, b, at, 1)
		}
	}
	page := randomBytes(random, 4096)
	for at := 0; at < 8*len(page); at += 61 {
		other(t, page, at, 1)
	}
	other(t, page, 8*len(page)-1, 1)
}

func TestTwoBits(t *testing.T) {
	random := rand.New(rand.NewSource(6))
	for _, b := range [][]byte{make([]byte, 24), bytes.Repeat([]byte{255}, 24), randomBytes(random, 24)} {
		for i := range 8 * len(b) {
			for j := range i {
				if crc.Check(turned(turned(b, i, 1), j, 1)) == crc.Check(b) {
					t.Fatalf("%x with bits %d and %d turned over has the same check", b, i, j)
				}
			}
		}
	}
}

func TestWithin32Bits(t *testing.T) {
	random := rand.New(rand.NewSource(7))
	b := randomBytes(random, 20)
	last := 8*len(b) - 32
	for turn := uint32(1); turn < 1<<16; turn++ {
		other(t, b, int(turn)%(last+1), turn)
		other(t, b, int(turn)%(last+1), turn<<16|1)
	}
	for at := range last + 1 {
		for i := range 32 {
			other(t, b, at, 1<<31|1<<i)
			other(t, b, at, ^uint32(0)>>i)
		}
		other(t, b, at, 0x82f63b78) // which each step adds
	}
	for range 200000 {
		other(t, b, random.Intn(last+1), max(1, random.Uint32()))
	}
}

func TestFourBytes(t *testing.T) {
	random := rand.New(rand.NewSource(8))
	for _, n := range []int{4, 5, 100, 4096} {
		for range 500 {
			b := randomBytes(random, n)
			at := random.Intn(n - 3)
			for _, four := range [][]byte{randomBytes(random, 4), make([]byte, 4), {255, 255, 255, 255}} {
				changed := slices.Clone(b)
				copy(changed[at:], four)
				if !bytes.Equal(b, changed) && crc.Check(b) == crc.Check(changed) {
					t.Fatalf("%x at %d of %d bytes has the check of %x", four, at, n, b[at:at+4])
				}
			}
		}
	}
}

// FuzzCheck parts any bytes at any place.
func FuzzCheck(f *testing.F) {
	f.Add([]byte{}, 0)
	f.Add([]byte("123456789"), 5)
	f.Fuzz(func(t *testing.T, b []byte, at int) {
		at = max(0, min(at, len(b)))
		if got, want := crc.Check(b[:at], nil, b[at:]), byTheBook(b); got != want {
			t.Fatalf("Check(%x, %x): %08x, not %08x", b[:at], b[at:], got, want)
		}
	})
}
