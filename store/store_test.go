package store_test

import (
	"bytes"
	"math"
	"strconv"
	"strings"
	"testing"

	"quitrent/api"
	"quitrent/disk"
	"quitrent/store"
)

func TestTheChaptersExamples(t *testing.T) {
	_, s := made(t, 5)
	if n := s.Left(); n != 3 {
		t.Errorf("Left: %d", n)
	}
	takes(t, s, "a", 2)
	takes(t, s, "b", 3)
	roots(t, s, 2)
	answers(t, "Give of the root", s.Give(2), api.ErrArg)
	gives(t, s, 3)
	takes(t, s, "c", 3)

	commits(t, s)
	takes(t, s, "d", 4)
	gives(t, s, 3)
	takesNot(t, s, []byte("e"), api.ErrFull)
	takesNot(t, s, []byte("f"), api.ErrFull)
	s.Abort()
	if n := s.Left(); n != 1 {
		t.Errorf("Left: %d", n)
	}
}

// P5.1: Open.

func TestOpenNewDisks(t *testing.T) {
	for _, size := range []int{4, 5, 7, 8, 9, 15, 16, 17, 100, api.MaxPages - 1, api.MaxPages} {
		d := newDisk(t, size)
		writesNothing(t, "Open", d, func() { looks(t, open(t, d), size, 0, 0, nil) })
	}
}

func TestOpenErrors(t *testing.T) {
	refuses := func(name string, d *disk.Disk, want api.Errno) {
		t.Helper()
		if s, e := store.Open(d); s != nil || e != want {
			t.Errorf("Open of a disk that is %s: %v, %v, not %v alone", name, s, e, want)
		}
	}
	refuses("nil", nil, api.ErrNil)
	refuses("none that New made", &disk.Disk{}, api.ErrArg)
	last := bytes.Repeat([]byte{255}, api.Page) // begins with 2^64 - 1
	for size := 1; size <= 5; size++ {
		d := newDisk(t, size)
		if size < 4 {
			refuses("too small", d, api.ErrArg)
		}
		lay(t, d, size/4, last) // page 0 of a small one, and else 1
		want := api.ErrBroken
		if size < 4 {
			want = api.ErrArg
		}
		refuses("without a next stamp", d, want)
		d.Kill()
		refuses("dead", d, api.ErrDead)
	}
}

func TestOpenWritesNothing(t *testing.T) {
	d, s := made(t, 6)
	for i := range 5 {
		takes(t, s, strconv.Itoa(i), 2+i%2)
		roots(t, s, 2+i%2)
		if i > 0 {
			gives(t, s, 3-i%2)
		}
		commits(t, s)
		writesNothing(t, "Open", d, func() {
			looks(t, open(t, d), 6, 0, 2+i%2, held{2 + i%2: strconv.Itoa(i)})
		})
	}
	lay(t, d, 0, make([]byte, api.Page))
	lay(t, d, 1, bytes.Repeat([]byte{7}, api.Page))
	writesNothing(t, "Open", d, func() { looks(t, open(t, d), 6, 0, 0, nil) })
	lay(t, d, 1, bytes.Repeat([]byte{255}, api.Page))
	writesNothing(t, "Open", d, func() { store.Open(d) })
}

// What stood in a page that is free plays no part, nor does a stamp there.
func TestOpenOverPagesThatAreFree(t *testing.T) {
	d := newDisk(t, 4)
	lay(t, d, 2, bytes.Repeat([]byte{255}, api.Page))
	lay(t, d, 3, put(t, 3, 1, math.MaxUint64, says(4, 2, 2)))
	s := open(t, d)
	looks(t, s, 4, 0, 0, nil)
	takes(t, s, "a", 2)
	commits(t, s)
	pageOf(t, d, 2, 1, "a")
	looks(t, open(t, d), 4, 0, 0, held{2: "a"})
}

// Two stores share nothing but what is written on their disk.
func TestStoresShareNothing(t *testing.T) {
	d, a := made(t, 5)
	b := open(t, d)
	_, c := made(t, 5)
	takes(t, a, "a", 2)
	roots(t, a, 2)
	looks(t, b, 5, 0, 0, nil)
	commits(t, a)
	looks(t, b, 5, 0, 0, nil)
	looks(t, c, 5, 0, 0, nil)
	looks(t, open(t, d), 5, 0, 2, held{2: "a"})
}

// ErrNil, and ErrDead, ahead of all else.

// refusals fails where a call of s answers anything but this error, and zero beside it.
func refusals(t *testing.T, name string, s *store.Store, want api.Errno) {
	t.Helper()
	for _, p := range append(wrongPages(5), 0, 1, 2, 3, 4) {
		b, e := s.Read(p)
		if len(b) != 0 {
			t.Errorf("%s: Read(%d) answers bytes", name, p)
		}
		answers(t, name+": Read", e, want)
		answers(t, name+": Give", s.Give(p), want)
		answers(t, name+": SetRoot", s.SetRoot(p), want)
		answers(t, name+": Back", s.Back(p), want)
	}
	for _, n := range []int{0, 1, api.Room, api.Room + 1} {
		takesNot(t, s, make([]byte, n), want)
	}
	if s.Root() != 0 || s.Left() != 0 || s.Mark() != 0 || s.Mark() != 0 {
		t.Errorf("%s: Root %d, Left %d, Mark %d", name, s.Root(), s.Left(), s.Mark())
	}
}

func TestNilStore(t *testing.T) {
	var s *store.Store
	for range 2 {
		refusals(t, "nil", s, api.ErrNil)
		answers(t, "nil: Commit", s.Commit(), api.ErrNil)
		s.Abort()
		if s.Dead() {
			t.Error("nil: Dead")
		}
	}
}

// A store that Open did not make lies on no disk.
func TestStoreOfNoDisk(t *testing.T) {
	s := &store.Store{}
	for range 2 {
		refusals(t, "of no disk", s, api.ErrNil)
		answers(t, "of no disk: Commit", s.Commit(), api.ErrNil)
		s.Abort()
		if s.Dead() {
			t.Error("of no disk: Dead")
		}
	}
}

// A store is as dead as its disk is: what it had in memory is there when the power is, as long as no Commit met that.
func TestDeadDisk(t *testing.T) {
	d, s := made(t, 5)
	takes(t, s, "a", 2)
	roots(t, s, 2)
	commits(t, s)
	marks(t, s, 1)
	takes(t, s, "b", 3)
	d.Kill()
	if !s.Dead() {
		t.Error("its disk is dead, and it is not")
	}
	refusals(t, "of a dead disk", s, api.ErrDead)
	d.Restart(nil)
	if s.Dead() {
		t.Error("its disk has power, no Commit met that it had none, and it is dead")
	}
	looks(t, s, 5, 0, 2, held{2: "a", 3: "b"})
	back(t, s, 1, api.OK)
	looks(t, s, 5, 0, 2, held{2: "a"})
	takes(t, s, "c", 3)
	d.Kill()
	s.Abort()
	d.Restart(nil)
	looks(t, s, 5, 0, 2, held{2: "a"})
	back(t, s, 1, api.ErrArg)
}

// P5.2: Root, Left, Read.

func TestReadWhatIsTaken(t *testing.T) {
	d, s := made(t, 40)
	want := held{}
	for i, n := range []int{0, 0, 1, 2, 255, 256, 486, 487, 488, 511, 512, 3000, api.Room - 1, api.Room} {
		b := pattern(i, n)
		if i == 0 {
			b = nil
		}
		takes(t, s, string(b), 2+i)
		want[2+i] = string(b)
	}
	looks(t, s, 40, 0, 0, want)
	commits(t, s)
	looks(t, s, 40, 0, 0, want)
	looks(t, open(t, d), 40, 0, 0, want)
}

func TestNoBytes(t *testing.T) {
	d, s := made(t, 6)
	for i, b := range [][]byte{nil, {}} {
		if p, e := s.Take(b); p != 2+i || e != api.OK {
			t.Errorf("Take of no bytes: %d, %v", p, e)
		}
	}
	looks(t, s, 6, 0, 0, held{2: "", 3: ""})
	commits(t, s)
	pageOf(t, d, 2, 1, "")
	looks(t, s, 6, 0, 0, held{2: "", 3: ""})
}

func TestReadWhatIsNotTaken(t *testing.T) {
	d, s := made(t, 12)
	for p := 2; p < 12; p++ {
		takes(t, s, "a", p)
	}
	gives(t, s, 4) // free at once
	commits(t, s)
	gives(t, s, 6) // not free, and not taken either
	for _, s := range []*store.Store{s, open(t, d)} {
		for _, p := range append(wrongPages(12), 0, 1, 4) {
			if b, e := s.Read(p); len(b) != 0 || e != api.ErrArg {
				t.Errorf("Read(%d): %q, %v", p, b, e)
			}
		}
	}
	if b, e := s.Read(6); len(b) != 0 || e != api.ErrArg {
		t.Errorf("Read of a page that is given: %q, %v", b, e)
	}
}

func TestItsMemoryIsItsOwn(t *testing.T) {
	d, s := made(t, 6)
	in := []byte("abcdefgh")
	for p := 2; p < 4; p++ {
		if q, e := s.Take(in[:4]); q != p || e != api.OK {
			t.Fatalf("Take: %d, %v", q, e)
		}
	}
	if string(in) != "abcdefgh" {
		t.Errorf("bytes that were handed in are %q now", in)
	}
	copy(in, "xxxxxxxx")
	spoil := func(s *store.Store) {
		t.Helper()
		for p := 2; p < 4; p++ {
			first, _ := s.Read(p)
			second, _ := s.Read(p)
			copy(first, "yyyy")
			_ = append(first, "yyyy"...)
			if string(second) != "abcd" {
				t.Errorf("what page %d was read as is %q now", p, second)
			}
		}
		looks(t, s, 6, 0, 0, held{2: "abcd", 3: "abcd"})
	}
	marks(t, s, 1)
	spoil(s) // taken in the change
	gives(t, s, 2)
	back(t, s, 1, api.OK)
	spoil(s)
	commits(t, s)
	spoil(s) // on the disk
	spoil(open(t, d))
}

// Pages that are taken, and not whole on the disk.
func TestReadWhatIsNotWhole(t *testing.T) {
	d, s := made(t, 5)
	takes(t, s, "a", 2)
	takes(t, s, "b", 3)
	roots(t, s, 2)
	commits(t, s)
	right := on(t, d, 2)
	spoilt := bytes.Clone(right)
	spoilt[100] ^= 1
	for name, page := range map[string][]byte{
		"bytes 0":          make([]byte, api.Page),
		"another place":    on(t, d, 3),
		"a head's kind":    put(t, 2, 1, 1, []byte("a")),
		"kind 0":           put(t, 2, 0, 1, []byte("a")),
		"kind 3":           put(t, 2, 3, 1, []byte("a")),
		"a byte is other":  spoilt,
		"torn, and old":    torn(make([]byte, api.Page), right, 7),
		"torn, of another": torn(put(t, 2, 2, 2, []byte("a")), right, 4),
		"a head":           on(t, d, 1),
	} {
		lay(t, d, 2, page)
		for _, s := range []*store.Store{s, open(t, d)} {
			if b, e := s.Read(2); len(b) != 0 || e != api.ErrBroken {
				t.Errorf("%s: Read: %q, %v", name, b, e)
			}
			// It is taken all the same, and the others are what they were.
			if b, e := s.Read(3); string(b) != "b" || e != api.OK || s.Root() != 2 || s.Left() != 1 {
				t.Errorf("%s: beside it %q, %v, Root %d, Left %d", name, b, e, s.Root(), s.Left())
			}
		}
	}
	for _, stamp := range []uint64{1, 7, math.MaxUint64} { // which stamp it has plays no part
		lay(t, d, 2, put(t, 2, 2, stamp, []byte("z")))
		looks(t, s, 5, 0, 2, held{2: "z", 3: "b"})
	}
	lay(t, d, 2, make([]byte, api.Page))
	s = open(t, d)
	roots(t, s, 3)
	gives(t, s, 2)
	commits(t, s)
	takes(t, s, "c", 2)
	commits(t, s)
	looks(t, open(t, d), 5, 0, 3, held{2: "c", 3: "b"})
}

// What was taken in the change stands on the disk only when it is committed: so nothing there can spoil it.
func TestReadAheadOfTheDisk(t *testing.T) {
	d, s := made(t, 5)
	writesNothing(t, "Take", d, func() { takes(t, s, "a", 2) })
	lay(t, d, 2, bytes.Repeat([]byte{9}, api.Page))
	looks(t, s, 5, 0, 0, held{2: "a"})
	commits(t, s)
	pageOf(t, d, 2, 1, "a")
}

// P5.3: Take, Give, SetRoot.

func TestTakeTooMuch(t *testing.T) {
	_, s := made(t, 5)
	for _, n := range []int{api.Room + 1, api.Room + 2, api.Page, 1 << 20} {
		takesNot(t, s, make([]byte, n), api.ErrLong)
		looks(t, s, 5, 0, 0, nil)
	}
	for p := 2; p < 5; p++ {
		takes(t, s, strings.Repeat("r", api.Room), p)
	}
	takesNot(t, s, nil, api.ErrFull)
	takesNot(t, s, make([]byte, api.Room), api.ErrFull)
	takesNot(t, s, make([]byte, api.Room+1), api.ErrLong) // ahead of ErrFull
}

func TestTakeAllOfADisk(t *testing.T) {
	for _, size := range []int{4, 7, 8, 9, 16, 17, 64, api.MaxPages} {
		d, s := made(t, size)
		all := held{}
		for p := 2; p < size; p++ {
			if n := s.Left(); n != size-p {
				t.Fatalf("Left: %d, not %d", n, size-p)
			}
			takes(t, s, strconv.Itoa(p), p)
			all[p] = strconv.Itoa(p)
		}
		takesNot(t, s, nil, api.ErrFull)
		roots(t, s, size-1)
		looks(t, s, size, 0, size-1, all)
		commits(t, s)
		takesNot(t, s, nil, api.ErrFull)
		s = open(t, d)
		looks(t, s, size, 0, size-1, all)
		takesNot(t, s, nil, api.ErrFull)
		roots(t, s, 0)
		for p := 2; p < size; p++ {
			gives(t, s, p)
		}
		takesNot(t, s, nil, api.ErrFull)
		commits(t, s)
		looks(t, s, size, 0, 0, nil)
		takes(t, s, "a", 2)
	}
}

func TestTakeTheLeast(t *testing.T) {
	_, s := made(t, 20)
	for p := 2; p < 20; p++ {
		takes(t, s, "a", p)
	}
	gives(t, s, 17, 3, 9, 8, 2)
	for _, p := range []int{2, 3, 8, 9, 17} {
		takes(t, s, "b", p)
	}
	takesNot(t, s, nil, api.ErrFull)
	commits(t, s)
	gives(t, s, 5, 19)
	takesNot(t, s, nil, api.ErrFull) // they were taken ahead of the change
	commits(t, s)
	gives(t, s, 4)
	takes(t, s, "c", 5) // 4 is not free yet
	gives(t, s, 5)      // and 5 is, at once
	takes(t, s, "d", 5)
	takes(t, s, "e", 19)
	commits(t, s)
	takes(t, s, "f", 4)
	takesNot(t, s, nil, api.ErrFull)
}

func TestGive(t *testing.T) {
	_, s := made(t, 10)
	for p := 2; p < 8; p++ {
		takes(t, s, "a", p)
	}
	commits(t, s)
	for _, p := range append(wrongPages(10), 0, 1, 8, 9) {
		answers(t, "Give of a page that is not taken", s.Give(p), api.ErrArg)
	}
	all := held{2: "a", 3: "a", 4: "a", 5: "a", 6: "a", 7: "a"}
	looks(t, s, 10, 0, 0, all)

	gives(t, s, 3)
	delete(all, 3)
	looks(t, s, 10, 1, 0, all) // not free
	answers(t, "Give of a page that is given", s.Give(3), api.ErrArg)
	looks(t, s, 10, 1, 0, all)

	takes(t, s, "b", 8)
	gives(t, s, 8)
	looks(t, s, 10, 1, 0, all) // free at once
	answers(t, "Give of a page that is free", s.Give(8), api.ErrArg)

	commits(t, s)
	looks(t, s, 10, 0, 0, all)
	answers(t, "Give of a page that was given", s.Give(3), api.ErrArg)
}

func TestGiveTheRoot(t *testing.T) {
	d, s := made(t, 8)
	takes(t, s, "a", 2)
	takes(t, s, "b", 3)
	roots(t, s, 3)
	answers(t, "Give of a root that was taken in the change", s.Give(3), api.ErrArg)
	gives(t, s, 2)
	commits(t, s)
	answers(t, "Give of a root that was taken ahead", s.Give(3), api.ErrArg)
	s = open(t, d)
	answers(t, "Give of a root that was found", s.Give(3), api.ErrArg)
	looks(t, s, 8, 0, 3, held{3: "b"})
	takes(t, s, "c", 2)
	roots(t, s, 2)
	gives(t, s, 3) // a root no more
	roots(t, s, 0)
	gives(t, s, 2)
	looks(t, s, 8, 1, 0, nil)
	commits(t, s)
	looks(t, open(t, d), 8, 0, 0, nil)
}

func TestSetRoot(t *testing.T) {
	d, s := made(t, 10)
	for p := 2; p < 8; p++ {
		takes(t, s, "a", p)
	}
	roots(t, s, 5)
	commits(t, s)
	gives(t, s, 4)
	takes(t, s, "b", 8)
	gives(t, s, 8)
	for _, p := range append(wrongPages(10), 1, 4, 8, 9) {
		answers(t, "SetRoot of a page that is not taken", s.SetRoot(p), api.ErrArg)
		if s.Root() != 5 {
			t.Fatalf("SetRoot(%d), which is refused: the root is %d", p, s.Root())
		}
	}
	for _, p := range []int{2, 7, 7, 0, 0, 5} {
		roots(t, s, p)
	}
	takes(t, s, "c", 8)
	roots(t, s, 8)
	commits(t, s)
	if n := open(t, d).Root(); n != 8 {
		t.Errorf("the root is %d", n)
	}
	roots(t, s, 0)
	commits(t, s)
	looks(t, open(t, d), 10, 0, 0, held{2: "a", 3: "a", 5: "a", 6: "a", 7: "a", 8: "c"})
}

// A call that is refused changes nothing: a Commit behind it has nothing to write.
func TestRefusedCallsAreNoChange(t *testing.T) {
	d, s := made(t, 4)
	takes(t, s, "a", 2)
	takes(t, s, "b", 3)
	roots(t, s, 2)
	commits(t, s)
	writesNothing(t, "calls that are refused", d, func() {
		takesNot(t, s, nil, api.ErrFull)
		takesNot(t, s, make([]byte, api.Room+1), api.ErrLong)
		answers(t, "Give", s.Give(2), api.ErrArg)
		answers(t, "Give", s.Give(1), api.ErrArg)
		answers(t, "SetRoot", s.SetRoot(4), api.ErrArg)
		back(t, s, 1, api.ErrArg)
		s.Read(9)
		commits(t, s)
	})
}
