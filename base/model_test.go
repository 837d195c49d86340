package base_test

import (
	"maps"
	"math/rand"
	"strings"
	"testing"

	"quitrent/api"
	"quitrent/base"
	"quitrent/disk"
)

// acts hands out numbers that say what is done: of bytes, or 0 behind their end.
type acts struct{ b []byte }

func (a *acts) next() int {
	if len(a.b) == 0 {
		return 0
	}
	n := a.b[0]
	a.b = a.b[1:]
	return int(n)
}

// key is one of some fifty, many of which begin others; now and then one that may not be.
func (a *acts) key() string {
	name := string(rune('a' + a.next()%8))
	switch m := a.next() % 16; {
	case m < 1:
		return ""
	case m < 8:
		return name
	case m < 14:
		return name + strings.Repeat("m", m*20)
	default:
		return long(name, 256+m%2)
	}
}

// value is one of any length; now and then one that may not be.
func (a *acts) value() string {
	switch n := a.next(); {
	case n < 100:
		return long("value", n%9)
	case n < 230:
		return long("value", a.next()*4)
	}
	return long("value", 1024+a.next()%2)
}

// fates are some, of up to four pages.
func (a *acts) fates() []int {
	fates := make([]int, a.next()%5)
	for i := range fates {
		if fates[i] = a.next(); fates[i]%3 == 0 {
			fates[i] = 255
		}
	}
	return fates
}

// both are a base, and plain maps that it is held against.
type both struct {
	d    *disk.Disk
	b    *base.Base
	size int
	now  pairs
	was  pairs // as it was committed
	off  bool  // the disk is dead
	gone bool  // a Commit met that
}

// refuses is why nothing is done at all.
func (x *both) refuses() api.Errno {
	if x.off || x.gone {
		return api.ErrDead
	}
	return api.OK
}

// follow does one act to both.
func (x *both) follow(t *testing.T, a *acts) {
	t.Helper()
	switch n := a.next() % 64; {
	case n < 24:
		x.put(t, a.key(), a.value())
	case n < 34:
		x.remove(t, a.key())
	case n < 40:
		x.asks(t, a.key(), a.key())
	case n < 46:
		answers(t, "Commit", x.b.Commit(), x.refuses())
		if x.gone = x.refuses() != api.OK; !x.gone {
			x.was = maps.Clone(x.now)
		}
	case n < 50:
		x.b.Abort()
		x.now = maps.Clone(x.was)
	case n < 54:
		x.power(a)
	case n < 58:
		x.anew(t)
	default:
		x.crash(t, a)
	}
}

// put puts a pair, which may be refused.
func (x *both) put(t *testing.T, k, v string) {
	t.Helper()
	e := x.b.Put([]byte(k), []byte(v))
	switch want := x.refuses(); {
	case want != api.OK:
		answers(t, "Put", e, want)
	case k == "":
		answers(t, "Put of no key", e, api.ErrArg)
	case len(k) > 256 || len(v) > 1024:
		answers(t, "Put of what is too long", e, api.ErrLong)
	case e == api.OK:
		x.now[k] = v
	case e != api.ErrFull || x.b.Left() >= 20:
		t.Fatalf("Put: %v, and %d pages are left", e, x.b.Left())
	}
}

// remove deletes a key, which may be refused.
func (x *both) remove(t *testing.T, k string) {
	t.Helper()
	_, there := x.now[k]
	was, e := x.b.Delete([]byte(k))
	switch want := x.refuses(); {
	case want != api.OK:
		answers(t, "Delete", e, want)
	case e == api.OK:
		delete(x.now, k)
	case e != api.ErrFull || !there || x.b.Left() >= 20:
		t.Fatalf("Delete: %v, and %d pages are left", e, x.b.Left())
	}
	if was != (there && e == api.OK) {
		t.Fatalf("Delete(%.9q): %v, %v", k, was, e)
	}
}

// asks fails where a question is answered otherwise than the model does.
func (x *both) asks(t *testing.T, k, to string) {
	t.Helper()
	dead(t, "in the model", x.b, x.refuses() != api.OK)
	if want := x.refuses(); want != api.OK {
		refusals(t, "dead", x.b, want)
		return
	}
	x.now.gets(t, x.b, k)
	x.now.ranges(t, x.b, k, to)
}

// power takes the power away, or brings it again: no Commit is under way, so nothing is lost by it alone.
func (x *both) power(a *acts) {
	if x.off {
		x.d.Restart(a.fates())
	} else {
		x.d.Kill()
	}
	x.off = !x.off
}

// anew opens the base anew, and what was not committed is gone.
func (x *both) anew(t *testing.T) {
	t.Helper()
	if x.off {
		opensNot(t, "a dead disk", x.d, api.ErrDead)
		return
	}
	x.b, x.gone, x.now = open(t, x.d), false, maps.Clone(x.was)
}

// crash commits, and the power may go meanwhile, and come again: then there is what was committed, or with it what was being.
func (x *both) crash(t *testing.T, a *acts) {
	t.Helper()
	refused := x.refuses()
	x.d.Fuse(a.next() % 9)
	e := x.b.Commit()
	if refused != api.OK {
		answers(t, "Commit", e, refused)
		x.d.Fuse(-1)
		x.gone = true
		return
	}
	if e != api.OK {
		answers(t, "Commit", e, api.ErrDead)
		x.gone = true
		refusals(t, "dead", x.b, api.ErrDead)
	}
	x.d.Restart(a.fates())
	switch there := all(t, open(t, x.d)); {
	case maps.Equal(there, x.now):
		x.was = maps.Clone(x.now)
	case e == api.OK || !maps.Equal(there, x.was):
		t.Fatalf("Commit %v: %d pairs, not %d, nor %d, or others", e, len(there), len(x.was), len(x.now))
	}
	if a.next()%4 > 0 {
		x.anew(t)
	}
}

// alike fails where the base is not the model.
func (x *both) alike(t *testing.T) {
	t.Helper()
	dead(t, "in the model", x.b, x.refuses() != api.OK)
	if x.refuses() != api.OK {
		l, e := x.b.Range(nil, nil)
		if answers(t, "Range", e, api.ErrDead); len(l) != 0 {
			t.Fatalf("a dead base has %d pairs", len(l))
		}
		return
	}
	x.now.ranges(t, x.b, "", "")
	if maps.Equal(x.now, x.was) {
		x.was.ranges(t, open(t, x.d), "", "")
	}
}

// run does all that b says.
func run(t *testing.T, b []byte) {
	a := &acts{b}
	size := 4 + a.next()%40
	d, made := made(t, size)
	x := &both{d: d, b: made, size: size, now: pairs{}, was: pairs{}}
	for len(a.b) > 0 {
		x.follow(t, a)
		x.alike(t)
	}
	if x.off {
		x.power(a)
	}
	x.anew(t)
	x.was.looks(t, x.b)
	roomy(t, x.b, size)
}

// P7.2 to P7.4, over runs of any acts, the power going among them, and the base opened anew.
func TestAgainstTheModel(t *testing.T) {
	random := rand.New(rand.NewSource(7))
	for range 100 {
		b := make([]byte, 500)
		random.Read(b)
		run(t, b)
	}
}

// FuzzBase seeks acts by which a base is another one than a plain map.
func FuzzBase(f *testing.F) {
	f.Add([]byte{26, 0, 0, 1, 5, 40, 0, 1, 1, 7, 46, 34, 0, 1, 1, 1, 54, 0, 2, 1, 9, 60, 2, 1, 255, 1})
	f.Add([]byte{0, 0, 0, 1, 229, 250, 40, 0, 1, 1, 229, 250, 60, 3, 0, 0, 50, 40, 50, 0, 54, 24, 0, 1, 40})
	f.Fuzz(func(t *testing.T, b []byte) {
		if len(b) > 600 {
			b = b[:600]
		}
		run(t, b)
	})
}
