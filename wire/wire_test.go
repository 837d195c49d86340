package wire_test

import (
	"bytes"
	"encoding/hex"
	"math"
	"math/rand"
	"strings"
	"testing"

	"quitrent/api"
	"quitrent/wire"
)

// raw reads hex with blanks.
func raw(t *testing.T, s string) []byte {
	t.Helper()
	b, err := hex.DecodeString(strings.ReplaceAll(s, " ", ""))
	if err != nil {
		t.Fatal(err)
	}
	return b
}

// P1.1: Byte, Uint, Int, Text.

func TestPut(t *testing.T) {
	long := bytes.Repeat([]byte{0xab}, 300)
	for _, c := range []struct {
		name string
		put  func(b []byte) []byte
		want string
	}{
		{"Byte 0", func(b []byte) []byte { return wire.Byte(b, 0) }, "00"},
		{"Byte 7", func(b []byte) []byte { return wire.Byte(b, 7) }, "07"},
		{"Byte 255", func(b []byte) []byte { return wire.Byte(b, 255) }, "ff"},
		{"Uint 0", func(b []byte) []byte { return wire.Uint(b, 0) }, "00 00 00 00 00 00 00 00"},
		{"Uint 258", func(b []byte) []byte { return wire.Uint(b, 258) }, "00 00 00 00 00 00 01 02"},
		{"Uint of 8 digits", func(b []byte) []byte { return wire.Uint(b, 0x0102030405060708) }, "01 02 03 04 05 06 07 08"},
		{"Uint greatest", func(b []byte) []byte { return wire.Uint(b, math.MaxUint64) }, "ff ff ff ff ff ff ff ff"},
		{"Int 0", func(b []byte) []byte { return wire.Int(b, 0) }, "00 00 00 00 00 00 00 00"},
		{"Int 258", func(b []byte) []byte { return wire.Int(b, 258) }, "00 00 00 00 00 00 01 02"},
		{"Int -1", func(b []byte) []byte { return wire.Int(b, -1) }, "ff ff ff ff ff ff ff ff"},
		{"Int -2", func(b []byte) []byte { return wire.Int(b, -2) }, "ff ff ff ff ff ff ff fe"},
		{"Int greatest", func(b []byte) []byte { return wire.Int(b, math.MaxInt64) }, "7f ff ff ff ff ff ff ff"},
		{"Int least", func(b []byte) []byte { return wire.Int(b, math.MinInt64) }, "80 00 00 00 00 00 00 00"},
		{"Text nil", func(b []byte) []byte { return wire.Text(b, nil) }, "00 00 00 00"},
		{"Text empty", func(b []byte) []byte { return wire.Text(b, []byte{}) }, "00 00 00 00"},
		{"Text ab", func(b []byte) []byte { return wire.Text(b, []byte("ab")) }, "00 00 00 02 61 62"},
		{"Text of any bytes", func(b []byte) []byte { return wire.Text(b, []byte{0, 255, 0}) }, "00 00 00 03 00 ff 00"},
		{"Text long", func(b []byte) []byte { return wire.Text(b, long) }, "00 00 01 2c" + strings.Repeat("ab", 300)},
	} {
		want := raw(t, c.want)
		for _, ahead := range [][]byte{nil, {}, {9}, {0, 1, 2, 3}} {
			if got, all := c.put(ahead), append(bytes.Clone(ahead), want...); !bytes.Equal(got, all) {
				t.Errorf("%s behind %x: %x, not %x", c.name, ahead, got, all)
			}
		}
	}
}

// puts are all four ways to put something behind b.
func puts() []func(b []byte) []byte {
	return []func(b []byte) []byte{
		func(b []byte) []byte { return wire.Byte(b, 0xee) },
		func(b []byte) []byte { return wire.Uint(b, math.MaxUint64) },
		func(b []byte) []byte { return wire.Int(b, -1) },
		func(b []byte) []byte { return wire.Text(b, []byte("abcdefgh")) },
	}
}

func TestPutLeavesItsArguments(t *testing.T) {
	for i, put := range puts() {
		whole := bytes.Repeat([]byte{5}, 64)
		b := whole[:3] // with room behind it, which isn't put's
		got := put(b)
		if !bytes.Equal(whole, bytes.Repeat([]byte{5}, 64)) {
			t.Errorf("put %d writes behind b: %x", i, whole)
		}
		again := put(b)
		for j := range got {
			got[j] = 0x11
		}
		if !bytes.Equal(b, []byte{5, 5, 5}) {
			t.Errorf("put %d: its answer shares b", i)
		}
		if again[0] != 5 || again[len(again)-1] == 0x11 {
			t.Errorf("put %d: two answers share", i)
		}
	}
}

func TestPutTextIsNewMemory(t *testing.T) {
	s := []byte("ab")
	got := wire.Text(nil, s)
	s[0] = 'x'
	if got[4] != 'a' {
		t.Error("the answer shares s")
	}
	got[5] = 'y'
	if string(s) != "xb" {
		t.Error("s shares the answer")
	}
	whole := []byte("....abcd")
	if got := wire.Text(whole[:4], whole[4:]); string(got[8:]) != "abcd" || string(whole) != "....abcd" {
		t.Errorf("a text that stands behind b: %q of %q", got, whole)
	}
}

// P1.2: New; the reader's Byte, Uint, Int, Text.

func TestTake(t *testing.T) {
	r := wire.New(raw(t, "07 ff 0000000000000102 ffffffffffffffff fffffffffffffffe 7fffffffffffffff 8000000000000000 00000002 6162 00000000 00"))
	if v := r.Byte(); v != 7 {
		t.Error("Byte", v)
	}
	if v := r.Byte(); v != 255 {
		t.Error("Byte", v)
	}
	if v := r.Uint(); v != 258 {
		t.Error("Uint", v)
	}
	if v := r.Uint(); v != math.MaxUint64 {
		t.Error("Uint", v)
	}
	for _, want := range []int64{-2, math.MaxInt64, math.MinInt64} {
		if v := r.Int(); v != want {
			t.Error("Int", v, "not", want)
		}
	}
	if s := r.Text(); string(s) != "ab" {
		t.Errorf("Text %q", s)
	}
	if s := r.Text(); len(s) != 0 {
		t.Errorf("empty Text %q", s)
	}
	if e := r.Done(); e != api.ErrForm {
		t.Error("done ahead of its end", e)
	}
	if v := r.Byte(); v != 0 || r.Done() != api.OK {
		t.Error("last Byte", v, r.Done())
	}
}

// spoilt fails where r, which has bytes left that would do, answers anything.
func spoilt(t *testing.T, name string, r *wire.Reader) {
	t.Helper()
	for range 3 {
		if v := r.Byte(); v != 0 {
			t.Error(name, "spoilt: Byte", v)
		}
		if s := r.Text(); len(s) != 0 {
			t.Errorf("%s: spoilt: Text %x", name, s)
		}
		if v := r.Uint(); v != 0 {
			t.Error(name, "spoilt: Uint", v)
		}
		if v := r.Int(); v != 0 {
			t.Error(name, "spoilt: Int", v)
		}
		if v := r.Count(math.MaxInt); v != 0 {
			t.Error(name, "spoilt: Count", v)
		}
		if e := r.Done(); e != api.ErrForm {
			t.Error(name, "spoilt: Done", e)
		}
	}
}

func TestTakeTooMuch(t *testing.T) {
	for _, c := range []struct {
		name string
		size int
		take func(r *wire.Reader) bool // whether it answers anything
	}{
		{"Byte", 1, func(r *wire.Reader) bool { return r.Byte() != 0 }},
		{"Uint", 8, func(r *wire.Reader) bool { return r.Uint() != 0 }},
		{"Int", 8, func(r *wire.Reader) bool { return r.Int() != 0 }},
		{"Count", 8, func(r *wire.Reader) bool { return r.Count(math.MaxInt) != 0 }},
	} {
		for n := range c.size {
			r := wire.New(bytes.Repeat([]byte{1}, n))
			if c.take(r) {
				t.Error(c.name, "answers, with only", n, "left")
			}
			spoilt(t, c.name, r)
		}
		r := wire.New(bytes.Repeat([]byte{1}, c.size))
		if !c.take(r) || r.Done() != api.OK {
			t.Error(c.name, "does not take the last bytes")
		}
		if c.take(r) {
			t.Error(c.name, "answers at the end")
		}
		spoilt(t, c.name, r)
	}
}

func TestTakeTextThatIsCut(t *testing.T) {
	for _, s := range []string{
		"", "00", "00 00", "00 00 00", // no whole length
		"00 00 00 01",
		"00 00 00 03 61 62",
		"00 00 00 ff 01 01 01 01 01 01 01 01 01 01",
		"00 00 01 00 01 01 01 01 01 01 01 01 01 01",
		"7f ff ff ff 01 01 01 01 01 01 01 01 01 01",
		"80 00 00 00 01 01 01 01 01 01 01 01 01 01",
		"ff ff ff ff 01 01 01 01 01 01 01 01 01 01",
		"ff ff ff ff",
	} {
		r := wire.New(raw(t, s))
		if got := r.Text(); len(got) != 0 {
			t.Errorf("a text of %s: %x", s, got)
		}
		spoilt(t, "text of "+s, r)
	}
}

func TestTakeTextAtTheEnd(t *testing.T) {
	r := wire.New(raw(t, "00 00 00 00"))
	if s := r.Text(); len(s) != 0 || r.Done() != api.OK {
		t.Errorf("an empty text: %x, %d", s, r.Done())
	}
	r = wire.New(raw(t, "00 00 00 03 61 62 63"))
	if s := r.Text(); string(s) != "abc" || r.Done() != api.OK {
		t.Errorf("a text that ends where the bytes end: %x, %d", s, r.Done())
	}
}

func TestReaderHasACopy(t *testing.T) {
	b := raw(t, "00 00 00 02 61 62 07")
	r := wire.New(b)
	clear(b)
	if string(r.Text()) != "ab" || r.Byte() != 7 || r.Done() != api.OK {
		t.Error("the reader keeps what it was handed")
	}
	if !bytes.Equal(b, make([]byte, 7)) {
		t.Error("the reader writes what it was handed")
	}
}

func TestTextIsNewMemory(t *testing.T) {
	b := raw(t, "00 00 00 02 61 62 00 00 00 02 63 64 07")
	r := wire.New(b)
	first := r.Text()
	_ = append(first, bytes.Repeat([]byte{0xff}, 9)...)
	clear(first)
	second := r.Text()
	if string(second) != "cd" || r.Byte() != 7 || r.Done() != api.OK {
		t.Errorf("who writes a text changes the reader: %x", second)
	}
	if !bytes.Equal(b, raw(t, "00 00 00 02 61 62 00 00 00 02 63 64 07")) {
		t.Error("who writes a text changes what the reader was handed")
	}
}

// P1.3: Count, Bad, Done.

func TestCount(t *testing.T) {
	for _, c := range []struct {
		n    uint64
		most int
		want int
		good bool
	}{
		{0, 0, 0, true},
		{0, 5, 0, true},
		{4, 5, 4, true},
		{5, 5, 5, true},
		{6, 5, 0, false},
		{1, 0, 0, false},
		{math.MaxInt, math.MaxInt, math.MaxInt, true},
		{math.MaxInt + 1, math.MaxInt, 0, false},
		{1 << 63, 5, 0, false},
		{math.MaxUint64, math.MaxInt, 0, false}, // as an int it would be -1
		{math.MaxUint64, 0, 0, false},
		{0, -1, 0, false},
		{0, math.MinInt, 0, false},
		{5, -1, 0, false},
		{math.MaxUint64, -1, 0, false},
	} {
		r := wire.New(bytes.Repeat(wire.Uint(nil, c.n), 2))
		got := r.Count(c.most)
		if got != c.want {
			t.Errorf("Count(%d) of %d: %d", c.most, c.n, got)
		}
		if !c.good {
			spoilt(t, "Count", r)
		} else if r.Uint() != c.n || r.Done() != api.OK {
			t.Errorf("Count(%d) of %d: the reader does not go on", c.most, c.n)
		}
	}
	r := wire.New(nil)
	if r.Count(-1) != 0 {
		t.Error("Count of nothing")
	}
	spoilt(t, "Count", r)
}

func TestBad(t *testing.T) {
	r := wire.New(bytes.Repeat([]byte{0, 0, 0, 1}, 64))
	if r.Byte() != 0 || r.Byte() != 0 {
		t.Fatal("Byte")
	}
	r.Bad()
	spoilt(t, "Bad", r)
	r.Bad()
	spoilt(t, "Bad twice", r)

	r = wire.New([]byte{7})
	if r.Byte() != 7 || r.Done() != api.OK {
		t.Fatal("Byte, Done")
	}
	r.Bad()
	spoilt(t, "Bad at the end", r)
}

func TestDone(t *testing.T) {
	for _, b := range [][]byte{nil, {}} {
		r := wire.New(b)
		if e := r.Done(); e != api.OK {
			t.Error("no bytes", e)
		}
		if e := r.Done(); e != api.OK {
			t.Error("no bytes, asked again", e)
		}
		r.Byte()
		spoilt(t, "no bytes", r)
	}
	r := wire.New([]byte{7, 8})
	for _, want := range []uint8{7, 8} {
		if e := r.Done(); e != api.ErrForm {
			t.Error("ahead of the end", e)
		}
		if v := r.Byte(); v != want {
			t.Error("Done took or spoilt something:", v)
		}
	}
	if e := r.Done(); e != api.OK {
		t.Error("at the end", e)
	}
}

func TestNilReader(t *testing.T) {
	var r *wire.Reader
	spoilt(t, "nil", r)
	r.Bad()
	if r.Count(-1) != 0 {
		t.Error("Count")
	}
	spoilt(t, "nil", r)
}

// P1.4: what follows.

// trip is bytes, and steps that take them again and tell whether they were the same.
type trip struct {
	bytes []byte
	steps []func(r *wire.Reader) bool
	ends  []int // of each step's bytes
}

func (p *trip) add(random *rand.Rand) {
	switch v := random.Uint64() >> random.Intn(64); random.Intn(5) {
	case 0:
		p.bytes = wire.Byte(p.bytes, uint8(v))
		p.steps = append(p.steps, func(r *wire.Reader) bool { return r.Byte() == uint8(v) })
	case 1:
		p.bytes = wire.Uint(p.bytes, v)
		p.steps = append(p.steps, func(r *wire.Reader) bool { return r.Uint() == v })
	case 2:
		p.bytes = wire.Int(p.bytes, -int64(v))
		p.steps = append(p.steps, func(r *wire.Reader) bool { return r.Int() == -int64(v) })
	case 3:
		n := int(v % 1000)
		p.bytes = wire.Uint(p.bytes, uint64(n))
		p.steps = append(p.steps, func(r *wire.Reader) bool { return r.Count(n) == n })
	case 4:
		s := make([]byte, random.Intn(40))
		random.Read(s)
		p.bytes = wire.Text(p.bytes, s)
		p.steps = append(p.steps, func(r *wire.Reader) bool { return bytes.Equal(r.Text(), s) })
	}
	p.ends = append(p.ends, len(p.bytes))
}

func TestWhatWasPutIsTaken(t *testing.T) {
	random := rand.New(rand.NewSource(1))
	for range 300 {
		p := &trip{}
		for range random.Intn(12) {
			p.add(random)
		}
		for cut := range len(p.bytes) + 1 {
			r := wire.New(p.bytes[:cut])
			for i, step := range p.steps {
				if p.ends[i] <= cut && !step(r) {
					t.Fatalf("step %d of %x, cut at %d: not what was put", i, p.bytes, cut)
				}
				if p.ends[i] > cut {
					step(r)
					break
				}
			}
			if whole := cut == len(p.bytes); (r.Done() == api.OK) != whole {
				t.Fatalf("%x, cut at %d: Done %d", p.bytes, cut, r.Done())
			}
		}
	}
}

// FuzzReader takes anything from anything, and puts it again: as what is put has one form only, it must be the bytes that were taken, none more and none less.
func FuzzReader(f *testing.F) {
	f.Add([]byte{}, []byte{})
	f.Add([]byte{0, 0, 0, 2, 'a', 'b'}, []byte{3})
	f.Add([]byte{255, 255, 255, 255, 1, 2, 3}, []byte{3, 0, 3})
	f.Add(bytes.Repeat([]byte{0}, 60), []byte{0, 1, 2, 3, 4, 6, 3, 5, 0})
	f.Add(bytes.Repeat([]byte{0, 0, 0, 1}, 40), []byte{3, 3, 0, 1, 2, 4, 0})
	f.Fuzz(func(t *testing.T, b, steps []byte) {
		r := wire.New(b)
		var again []byte
		told := 0
		for _, s := range steps {
			switch s % 6 {
			case 0:
				again = wire.Byte(again, r.Byte())
			case 1:
				again = wire.Uint(again, r.Uint())
			case 2:
				again = wire.Int(again, r.Int())
			case 3:
				text := r.Text()
				told += len(text)
				again = wire.Text(again, text)
			case 4:
				n := r.Count(int(s))
				if n < 0 || n > int(s) {
					t.Fatalf("Count(%d): %d", s, n)
				}
				again = wire.Uint(again, uint64(n))
			case 5:
				if n := r.Count(-int(s)); n != 0 {
					t.Fatalf("Count(%d): %d", -int(s), n)
				}
			}
		}
		if told > len(b) {
			t.Fatalf("%d bytes of %d", told, len(b))
		}
		if r.Done() == api.OK && !bytes.Equal(again, b) {
			t.Fatalf("%x taken as %x", b, again)
		}
	})
}
