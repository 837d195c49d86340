package disk_test

import (
	"bytes"
	"math"
	"slices"
	"testing"

	"quitrent/api"
	"quitrent/disk"
)

// newDisk is a disk of that many pages.
func newDisk(t *testing.T, pages int) *disk.Disk {
	t.Helper()
	d, e := disk.New(pages)
	if e != api.OK || d == nil {
		t.Fatalf("New(%d): %v, %d", pages, d, e)
	}
	return d
}

// page is one of the byte c all over.
func page(c byte) []byte { return bytes.Repeat([]byte{c}, api.Page) }

// mixed is a page whose sectors are of these bytes, one each.
func mixed(sectors ...byte) []byte {
	b := make([]byte, 0, api.Page)
	for _, c := range sectors {
		b = append(b, bytes.Repeat([]byte{c}, api.Sector)...)
	}
	return b
}

// told is the first byte of each sector, and a mark where a sector has others beside it.
func told(b []byte) string {
	if len(b) != api.Page {
		return "no page"
	}
	var s []byte
	for i := 0; i < len(b); i += api.Sector {
		c := b[i]
		if !bytes.Equal(b[i:i+api.Sector], bytes.Repeat([]byte{c}, api.Sector)) {
			c = '?'
		}
		s = append(s, c)
	}
	return string(bytes.ReplaceAll(s, []byte{0}, []byte{'.'}))
}

// answers fails where a call's error is another one.
func answers(t *testing.T, call string, got, want api.Errno) {
	t.Helper()
	if got != want {
		t.Errorf("%s: %v, not %v", call, got, want)
	}
}

// reads fails where page at of d is not want, byte by byte.
func reads(t *testing.T, d *disk.Disk, at int, want []byte) {
	t.Helper()
	b, e := d.Read(at)
	if e != api.OK || !bytes.Equal(b, want) {
		t.Errorf("Read(%d): %q, %v, not %q", at, told(b), e, told(want))
	}
}

// waits fails where other pages wait, or in another order.
func waits(t *testing.T, d *disk.Disk, want ...int) {
	t.Helper()
	if got := d.Waits(); !slices.Equal(got, want) {
		t.Errorf("Waits: %v, not %v", got, want)
	}
}

// write fails where a page is not written.
func write(t *testing.T, d *disk.Disk, at int, b []byte) {
	t.Helper()
	answers(t, "Write", d.Write(at, b), api.OK)
}

// flush fails where d is not flushed.
func flush(t *testing.T, d *disk.Disk) {
	t.Helper()
	answers(t, "Flush", d.Flush(), api.OK)
}

// P3.1: New, Size.

func TestNew(t *testing.T) {
	for _, n := range []int{math.MinInt, -4096, -1, 0, api.MaxPages + 1, math.MaxInt32, math.MaxInt} {
		d, e := disk.New(n)
		if d != nil || e != api.ErrArg {
			t.Errorf("New(%d): %v, %v, not ErrArg alone", n, d, e)
		}
	}
	for _, n := range []int{1, 2, 8, 100, api.MaxPages - 1, api.MaxPages} {
		d := newDisk(t, n)
		if d.Size() != n || d.Dead() || len(d.Waits()) != 0 {
			t.Errorf("New(%d): %d pages, dead %v, %v wait", n, d.Size(), d.Dead(), d.Waits())
		}
		for at := range n {
			b, e := d.Read(at)
			if e != api.OK || !bytes.Equal(b, page(0)) {
				t.Fatalf("page %d of a new disk: %q, %v", at, told(b), e)
			}
		}
	}
}

func TestSize(t *testing.T) {
	d := newDisk(t, 3)
	for _, act := range []func(){
		func() { d.Write(2, page('a')) }, func() { d.Flush() }, func() { d.Fuse(0) }, func() { d.Flush() },
		func() { d.Kill() }, func() { d.Restart(nil) },
	} {
		act()
		if d.Size() != 3 {
			t.Errorf("Size: %d (dead: %v), not 3", d.Size(), d.Dead())
		}
	}
	var none *disk.Disk
	if none.Size() != 0 {
		t.Errorf("Size of nil: %d", none.Size())
	}
}

func TestDisksShareNothing(t *testing.T) {
	a, b := newDisk(t, 2), newDisk(t, 2)
	write(t, a, 1, page('a'))
	flush(t, a)
	write(t, a, 0, page('b'))
	a.Kill()
	waits(t, b)
	reads(t, b, 0, page(0))
	reads(t, b, 1, page(0))
	if b.Dead() {
		t.Error("another disk's power is gone")
	}
}

// P3.2: Read, Write, Flush.

func TestWriteReadFlush(t *testing.T) {
	d := newDisk(t, 3)
	write(t, d, 0, page('a'))
	write(t, d, 2, mixed('1', '2', '3', '4', '5', '6', '7', '8'))
	reads(t, d, 0, page('a')) // what waits
	reads(t, d, 1, page(0))
	reads(t, d, 2, mixed('1', '2', '3', '4', '5', '6', '7', '8'))
	flush(t, d)
	reads(t, d, 0, page('a')) // what lasts
	reads(t, d, 1, page(0))
	reads(t, d, 2, mixed('1', '2', '3', '4', '5', '6', '7', '8'))
	write(t, d, 0, page('b'))
	reads(t, d, 0, page('b'))
	write(t, d, 0, page('c'))
	reads(t, d, 0, page('c'))
	d.Restart(nil)
	reads(t, d, 0, page('a')) // neither b nor c was flushed
	reads(t, d, 2, mixed('1', '2', '3', '4', '5', '6', '7', '8'))
}

func TestEveryByteOfAPage(t *testing.T) {
	b := make([]byte, api.Page)
	for i := range b {
		b[i] = byte(i*7 + i/256)
	}
	d := newDisk(t, 1)
	write(t, d, 0, b)
	reads(t, d, 0, b)
	flush(t, d)
	reads(t, d, 0, b)
	write(t, d, 0, page(0))
	reads(t, d, 0, page(0)) // a page of zeros is written like any other
	flush(t, d)
	d.Restart(nil)
	reads(t, d, 0, page(0))
}

func TestWrongPages(t *testing.T) {
	for _, size := range []int{1, 3, api.MaxPages} {
		d := newDisk(t, size)
		write(t, d, size-1, page('a'))
		for _, at := range []int{math.MinInt, -size, -1, size, size + 1, api.MaxPages, math.MaxInt} {
			b, e := d.Read(at)
			if b != nil || e != api.ErrArg {
				t.Errorf("Read(%d) of %d pages: %q, %v", at, size, told(b), e)
			}
			answers(t, "Write of no page", d.Write(at, page('x')), api.ErrArg)
		}
		waits(t, d, size-1)
		reads(t, d, size-1, page('a'))
	}
}

func TestWrongBytes(t *testing.T) {
	d := newDisk(t, 2)
	write(t, d, 1, page('a'))
	for _, b := range [][]byte{nil, {}, {'x'}, page('x')[:api.Sector], page('x')[1:], append(page('x'), 'x'), append(page('x'), page('x')...)} {
		answers(t, "Write of bytes that are no page", d.Write(0, b), api.ErrArg)
		answers(t, "Write of bytes that are no page", d.Write(1, b), api.ErrArg)
		answers(t, "Write of nothing that is right", d.Write(2, b), api.ErrArg)
	}
	waits(t, d, 1)
	reads(t, d, 0, page(0))
	reads(t, d, 1, page('a'))
	write(t, d, 0, append(page('b'), 'x')[:api.Page]) // with room behind it, a page all the same
	reads(t, d, 0, page('b'))
}

func TestErrorsInTheirOrder(t *testing.T) {
	var none *disk.Disk
	dead := newDisk(t, 2)
	write(t, dead, 0, page('a'))
	dead.Kill()
	for _, c := range []struct {
		name string
		d    *disk.Disk
		want api.Errno
	}{{"nil", none, api.ErrNil}, {"dead", dead, api.ErrDead}} {
		for _, at := range []int{0, 1, 2, -1, math.MaxInt, math.MinInt} {
			b, e := c.d.Read(at)
			if b != nil {
				t.Errorf("Read(%d) of a disk that is %s answers bytes", at, c.name)
			}
			answers(t, "Read of a disk that is "+c.name, e, c.want)
			answers(t, "Write of a disk that is "+c.name, c.d.Write(at, page('b')), c.want)
			answers(t, "Write of a disk that is "+c.name, c.d.Write(at, nil), c.want)
		}
		answers(t, "Flush of a disk that is "+c.name, c.d.Flush(), c.want)
	}
	waits(t, dead, 0)
	dead.Restart([]int{255})
	reads(t, dead, 0, page('a')) // and not b
	reads(t, dead, 1, page(0))
}

func TestNilDisk(t *testing.T) {
	var d *disk.Disk
	for range 2 {
		if d.Size() != 0 || d.Dead() || len(d.Waits()) != 0 {
			t.Errorf("nil: Size %d, Dead %v, Waits %v", d.Size(), d.Dead(), d.Waits())
		}
		d.Fuse(-1)
		d.Fuse(0)
		d.Kill()
		d.Restart(nil)
		d.Restart([]int{255, -1})
		d.Fuse(3)
	}
}

// A disk that New did not make has no pages, but it is one.
func TestDiskOfNoPages(t *testing.T) {
	d := &disk.Disk{}
	if d.Size() != 0 || d.Dead() || len(d.Waits()) != 0 {
		t.Errorf("Size %d, Dead %v, Waits %v", d.Size(), d.Dead(), d.Waits())
	}
	_, e := d.Read(0)
	answers(t, "Read", e, api.ErrArg)
	answers(t, "Write", d.Write(0, page('a')), api.ErrArg)
	answers(t, "Flush", d.Flush(), api.OK)
	d.Fuse(0)
	answers(t, "Flush", d.Flush(), api.ErrDead)
	d.Restart([]int{255})
	answers(t, "Flush", d.Flush(), api.OK)
}

func TestItsMemoryIsItsOwn(t *testing.T) {
	d := newDisk(t, 2)
	in := append(page('a'), 'z')[:api.Page]
	write(t, d, 0, in)
	write(t, d, 1, in) // the same bytes twice: two pages all the same
	for i := range in {
		in[i] = 'x'
	}
	spoil := func() {
		for at := range 2 {
			reads(t, d, at, page('a'))
			b, _ := d.Read(at)
			for i := range b {
				b[i] = 'y'
			}
			_ = append(b, 'y')
			reads(t, d, at, page('a'))
		}
	}
	spoil() // while they wait
	order := d.Waits()
	order[0], order[1] = 7, 7
	_ = append(order[:0], 9)
	waits(t, d, 0, 1)
	flush(t, d)
	spoil() // when they last
	write(t, d, 0, page('b'))
	fates := []int{1, 255, 7}
	d.Restart(fates)
	if !slices.Equal(fates, []int{1, 255, 7}) {
		t.Errorf("fates that were handed in are %v now", fates)
	}
	b, _ := d.Read(0)
	b[0] = 'y'
	reads(t, d, 0, mixed('b', 'a', 'a', 'a', 'a', 'a', 'a', 'a'))
	reads(t, d, 1, page('a'))
}

func TestWriteLeavesItsBytes(t *testing.T) {
	d := newDisk(t, 1)
	whole := append(page('a'), "behind"...)
	write(t, d, 0, whole[:api.Page])
	flush(t, d)
	write(t, d, 0, page('b'))
	d.Restart([]int{0x55})
	if !bytes.Equal(whole, append(page('a'), "behind"...)) {
		t.Error("bytes that were handed in are others now")
	}
}

// What a page held ahead is kept apart from what it is handed out as, later on too.
func TestAnswersStay(t *testing.T) {
	d := newDisk(t, 1)
	write(t, d, 0, page('a'))
	waiting, _ := d.Read(0)
	order := d.Waits()
	flush(t, d)
	lasting, _ := d.Read(0)
	write(t, d, 0, page('b'))
	d.Restart([]int{0x0f})
	if told(waiting) != "aaaaaaaa" || told(lasting) != "aaaaaaaa" || !slices.Equal(order, []int{0}) {
		t.Errorf("answers became %q, %q, %v", told(waiting), told(lasting), order)
	}
}

// P3.3: Waits.

func TestWaits(t *testing.T) {
	d := newDisk(t, 5)
	waits(t, d)
	flush(t, d)
	waits(t, d)
	for _, at := range []int{3, 0, 4} {
		write(t, d, at, page('a'))
	}
	waits(t, d, 3, 0, 4)
	write(t, d, 0, page('b')) // written twice: it waits where it first did
	write(t, d, 3, page('b'))
	waits(t, d, 3, 0, 4)
	write(t, d, 1, page('a'))
	waits(t, d, 3, 0, 4, 1)
	d.Read(2)
	d.Write(5, page('x'))
	d.Write(2, nil)
	waits(t, d, 3, 0, 4, 1)
	flush(t, d)
	waits(t, d)
	write(t, d, 4, page('c')) // behind a flush the order is a new one
	write(t, d, 3, page('c'))
	waits(t, d, 4, 3)
	d.Kill()
	waits(t, d, 4, 3) // a dead disk's pages wait for the power
	d.Restart(nil)
	waits(t, d)
	write(t, d, 1, page('d'))
	write(t, d, 4, page('d'))
	waits(t, d, 1, 4)
}

func TestManyWait(t *testing.T) {
	d := newDisk(t, api.MaxPages)
	var want []int
	for i := range api.MaxPages {
		at := i * 1031 % api.MaxPages // each of them once, as 1031 is odd
		write(t, d, at, page(byte(i)))
		want = append(want, at)
	}
	waits(t, d, want...)
	flush(t, d)
	waits(t, d)
	for i, at := range want {
		b, _ := d.Read(at)
		if !bytes.Equal(b, page(byte(i))) {
			t.Fatalf("page %d: %x.., not %x", at, b[0], byte(i))
		}
	}
}

// P3.4: Fuse, Kill, Dead, Restart.

func TestFuseCounts(t *testing.T) {
	for n := range 6 {
		for _, last := range []string{"Write", "Flush"} {
			d := newDisk(t, 8)
			d.Fuse(n)
			for i := range n {
				if i%3 == 2 {
					flush(t, d)
				} else {
					write(t, d, i, page('a'))
				}
			}
			if d.Dead() {
				t.Fatalf("Fuse(%d): dead ahead of its end", n)
			}
			ahead := d.Waits()
			if last == "Write" {
				answers(t, "the Write at a fuse's end", d.Write(7, page('b')), api.ErrDead)
				ahead = append(ahead, 7)
			} else {
				answers(t, "the Flush at a fuse's end", d.Flush(), api.ErrDead)
			}
			if !d.Dead() {
				t.Errorf("Fuse(%d), at its end a %s: not dead", n, last)
			}
			waits(t, d, ahead...)
		}
	}
}

func TestFuseAtAWrite(t *testing.T) {
	d := newDisk(t, 3)
	write(t, d, 0, page('a'))
	write(t, d, 1, page('b'))
	flush(t, d)
	write(t, d, 2, page('c'))
	write(t, d, 1, page('d'))
	d.Fuse(0)
	answers(t, "Write", d.Write(2, page('e')), api.ErrDead) // of a page that waits already
	waits(t, d, 2, 1)
	d.Restart([]int{0x0f, 0xf0})
	reads(t, d, 0, page('a'))
	reads(t, d, 1, mixed('b', 'b', 'b', 'b', 'd', 'd', 'd', 'd'))
	reads(t, d, 2, mixed('e', 'e', 'e', 'e', 0, 0, 0, 0))

	d.Fuse(0)
	answers(t, "Write", d.Write(0, page('f')), api.ErrDead) // of one that does not
	waits(t, d, 0)
	d.Restart([]int{1})
	reads(t, d, 0, mixed('f', 'a', 'a', 'a', 'a', 'a', 'a', 'a'))
}

func TestFuseAtAFlush(t *testing.T) {
	d := newDisk(t, 2)
	write(t, d, 1, page('a'))
	write(t, d, 0, page('b'))
	d.Fuse(0)
	answers(t, "Flush", d.Flush(), api.ErrDead)
	answers(t, "Flush", d.Flush(), api.ErrDead)
	waits(t, d, 1, 0)
	d.Restart([]int{0x81})
	reads(t, d, 1, mixed('a', 0, 0, 0, 0, 0, 0, 'a'))
	reads(t, d, 0, page(0))

	d.Fuse(0) // of nothing that waits a flush is one all the same
	answers(t, "Flush", d.Flush(), api.ErrDead)
	if !d.Dead() {
		t.Error("not dead")
	}
}

func TestRefusedCallsDoNotCount(t *testing.T) {
	d := newDisk(t, 2)
	d.Fuse(1)
	for range 3 {
		answers(t, "Write", d.Write(2, page('x')), api.ErrArg)
		answers(t, "Write", d.Write(-1, page('x')), api.ErrArg)
		answers(t, "Write", d.Write(0, nil), api.ErrArg)
		d.Read(0) // nor does what is no Write and no Flush
		d.Read(9)
		d.Waits()
		d.Size()
		d.Dead()
	}
	write(t, d, 0, page('a'))
	for range 3 {
		answers(t, "Write", d.Write(0, page('x')[1:]), api.ErrArg) // at the end of the fuse neither
		reads(t, d, 0, page('a'))
	}
	if d.Dead() {
		t.Fatal("dead by a call that was refused")
	}
	answers(t, "Flush", d.Flush(), api.ErrDead)
}

func TestNoFuse(t *testing.T) {
	for _, n := range []int{-1, -2, math.MinInt} {
		d := newDisk(t, 1)
		d.Fuse(1)
		d.Fuse(n) // takes it away
		for range 10 {
			write(t, d, 0, page('a'))
			flush(t, d)
		}
		if d.Dead() {
			t.Errorf("Fuse(%d): dead", n)
		}
	}
	d := newDisk(t, 1)
	for range 100 {
		write(t, d, 0, page('a'))
		flush(t, d)
	}
	d.Fuse(math.MaxInt)
	for range 100 {
		write(t, d, 0, page('b'))
		flush(t, d)
	}
	if d.Dead() {
		t.Error("dead without a fuse that is at its end")
	}
}

func TestFuseAnew(t *testing.T) {
	d := newDisk(t, 1)
	d.Fuse(5)
	write(t, d, 0, page('a'))
	d.Fuse(1) // the last one holds
	write(t, d, 0, page('b'))
	answers(t, "Flush", d.Flush(), api.ErrDead)

	d.Restart(nil)
	d.Fuse(0)
	d.Fuse(2)
	write(t, d, 0, page('a'))
	flush(t, d)
	answers(t, "Flush", d.Flush(), api.ErrDead)
}

func TestFuseOfADeadDisk(t *testing.T) {
	for _, n := range []int{-1, 0, 1, 5} {
		d := newDisk(t, 1)
		write(t, d, 0, page('a'))
		d.Kill()
		d.Fuse(n)
		if !d.Dead() {
			t.Errorf("Fuse(%d) gives power", n)
		}
		waits(t, d, 0)
		answers(t, "Write", d.Write(0, page('b')), api.ErrDead)
		d.Restart([]int{255})
		reads(t, d, 0, page('a'))
		for range 10 { // and it has no fuse behind it
			write(t, d, 0, page('b'))
			flush(t, d)
		}
	}
}

func TestNoFuseBehindRestart(t *testing.T) {
	for _, n := range []int{0, 1, 3} {
		for _, kill := range []bool{false, true} {
			d := newDisk(t, 1)
			d.Fuse(n)
			if kill {
				d.Kill()
			}
			d.Restart(nil)
			for range 10 {
				write(t, d, 0, page('a'))
				flush(t, d)
			}
		}
	}
}

func TestKillAndDead(t *testing.T) {
	d := newDisk(t, 2)
	write(t, d, 0, page('a'))
	flush(t, d)
	write(t, d, 1, page('b'))
	for range 2 { // a second time it is nothing new
		d.Kill()
		if !d.Dead() {
			t.Error("not dead")
		}
		waits(t, d, 1)
	}
	d.Restart([]int{255})
	if d.Dead() {
		t.Error("dead behind Restart")
	}
	reads(t, d, 0, page('a'))
	reads(t, d, 1, page('b'))
}

func TestRestartOfPower(t *testing.T) {
	for _, kill := range []bool{false, true} {
		d := newDisk(t, 3)
		write(t, d, 0, page('a'))
		flush(t, d)
		write(t, d, 0, page('b'))
		write(t, d, 2, page('c'))
		if kill {
			d.Kill()
		}
		d.Restart([]int{0x3c, 0x02})
		if d.Dead() {
			t.Error("dead behind Restart")
		}
		waits(t, d)
		reads(t, d, 0, mixed('a', 'a', 'b', 'b', 'b', 'b', 'a', 'a'))
		reads(t, d, 1, page(0))
		reads(t, d, 2, mixed(0, 'c', 0, 0, 0, 0, 0, 0))
		d.Restart([]int{255, 255, 255}) // nothing waits: no fate plays a part
		reads(t, d, 0, mixed('a', 'a', 'b', 'b', 'b', 'b', 'a', 'a'))
		reads(t, d, 2, mixed(0, 'c', 0, 0, 0, 0, 0, 0))
	}
}

func TestEveryFate(t *testing.T) {
	for fate := range 256 {
		want := mixed('1', '2', '3', '4', '5', '6', '7', '8')
		for s := range 8 {
			if fate&(1<<s) != 0 {
				copy(want[s*512:(s+1)*512], bytes.Repeat([]byte{'a' + byte(s)}, 512))
			}
		}
		for _, more := range []int{0, 256, 1 << 20, 1 << 62, math.MinInt, -256} { // of other bits nothing is said
			d := newDisk(t, 1)
			write(t, d, 0, mixed('1', '2', '3', '4', '5', '6', '7', '8'))
			flush(t, d)
			write(t, d, 0, mixed('a', 'b', 'c', 'd', 'e', 'f', 'g', 'h'))
			d.Restart([]int{fate + more})
			if b, _ := d.Read(0); !bytes.Equal(b, want) {
				t.Fatalf("fate %d: %q, not %q", fate+more, told(b), told(want))
			}
		}
	}
}

func TestFatesBelow0(t *testing.T) {
	for fate, want := range map[int]string{
		-1: "bbbbbbbb", -2: "abbbbbbb", -128: "aaaaaaab", -129: "bbbbbbba", -256: "aaaaaaaa", -255: "baaaaaaa",
		math.MinInt: "aaaaaaaa", math.MaxInt: "bbbbbbbb", math.MinInt + 8: "aaabaaaa",
	} {
		d := newDisk(t, 1)
		write(t, d, 0, page('a'))
		flush(t, d)
		write(t, d, 0, page('b'))
		d.Restart([]int{fate})
		if b, _ := d.Read(0); told(b) != want {
			t.Errorf("fate %d: %q, not %q", fate, told(b), want)
		}
	}
}

func TestFewerAndMoreFates(t *testing.T) {
	for n := range 6 {
		d := newDisk(t, 4)
		for at := range 4 {
			write(t, d, at, page('a'))
		}
		flush(t, d)
		for _, at := range []int{2, 0, 3} {
			write(t, d, at, page('b'))
		}
		write(t, d, 2, page('c'))
		d.Restart([]int{1, 2, 4, 255, 255}[:min(n, 5)])
		want := []string{"aaaaaaaa", "aaaaaaaa", "aaaaaaaa", "aaaaaaaa"}
		if n > 0 {
			want[2] = "caaaaaaa"
		}
		if n > 1 {
			want[0] = "abaaaaaa"
		}
		if n > 2 {
			want[3] = "aabaaaaa"
		}
		for at := range 4 {
			if b, _ := d.Read(at); told(b) != want[at] {
				t.Errorf("%d fates: page %d is %q, not %q", n, at, told(b), want[at])
			}
		}
		waits(t, d)
	}
}

// Behind Restart a page's torn sectors are what lasts, as if they had been written so.
func TestTornAgain(t *testing.T) {
	d := newDisk(t, 1)
	write(t, d, 0, page('a'))
	d.Restart([]int{0x0f})
	reads(t, d, 0, mixed('a', 'a', 'a', 'a', 0, 0, 0, 0))
	write(t, d, 0, page('b'))
	reads(t, d, 0, page('b'))
	d.Restart([]int{0x3c})
	reads(t, d, 0, mixed('a', 'a', 'b', 'b', 'b', 'b', 0, 0))
	flush(t, d)
	d.Restart(nil)
	reads(t, d, 0, mixed('a', 'a', 'b', 'b', 'b', 'b', 0, 0))
}

// The chapter's examples.

func TestExamples(t *testing.T) {
	d := newDisk(t, 2)
	write(t, d, 1, page('a'))
	waits(t, d, 1)
	reads(t, d, 1, page('a'))
	d.Restart(nil)
	reads(t, d, 1, page(0))

	d = newDisk(t, 2)
	write(t, d, 1, page('a'))
	d.Restart([]int{3})
	reads(t, d, 1, mixed('a', 'a', 0, 0, 0, 0, 0, 0))

	d = newDisk(t, 2)
	d.Fuse(1)
	write(t, d, 0, page('a'))
	answers(t, "Write", d.Write(1, page('b')), api.ErrDead)
	if !d.Dead() {
		t.Error("not dead")
	}
	d.Restart([]int{0, 255})
	reads(t, d, 0, page(0))
	reads(t, d, 1, page('b'))
}
