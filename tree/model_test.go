package tree_test

import (
	"maps"
	"math/rand"
	"strings"
	"testing"

	"quitrent/api"
	"quitrent/disk"
	"quitrent/store"
	"quitrent/tree"
)

// acts hands out numbers that say what is done: of bytes, or 0 behind their end.
type acts struct{ b []byte }

func (a *acts) next() int {
	if len(a.b) == 0 {
		return 0
	}
	n := a.b[0]
	a.b = a.b[1:]
	return int(n)
}

// key is one of some hundred, of any length, most of which begin others; now and then one that may not be.
func (a *acts) key() string {
	n := a.next()
	name := string(rune('a'+n%8)) + string(rune('a'+n/8%4))
	switch m := a.next() % 16; {
	case m < 2:
		return name[:m]
	case m < 8:
		return name
	case m < 14:
		return name + strings.Repeat(string([]byte{0, 'm', 255}[m%3:][:1]), a.next()%255)
	case m < 15:
		return long(name, 256)
	}
	return long(name, 256+a.next()%3)
}

// value is one of any length; now and then one that may not be.
func (a *acts) value() string {
	switch n := a.next(); {
	case n < 100:
		return long("value", n%9)
	case n < 220:
		return long("value", a.next()*4)
	}
	return long("value", 1024+a.next()%32/31)
}

// both are a store with its tree, and plain maps that it is held against.
type both struct {
	d     *disk.Disk
	s     *store.Store
	now   pairs
	was   pairs   // as it was committed
	marks []pairs // as it was at each mark
}

// follow does one act to both.
func (x *both) follow(t *testing.T, a *acts) {
	t.Helper()
	switch n := a.next() % 64; {
	case n < 28:
		x.put(t, a.key(), a.value())
	case n < 42:
		x.now.tryRemove(t, x.s, a.key())
	case n < 46:
		x.now.gets(t, x.s, a.key())
	case n < 50:
		x.now.ranges(t, x.s, a.key(), a.key())
	case n < 54:
		x.marks = append(x.marks, maps.Clone(x.now))
		if m := x.s.Mark(); m != len(x.marks) {
			t.Fatalf("Mark: %d, not %d", m, len(x.marks))
		}
	case n < 58:
		x.back(t, a.next())
	case n < 60:
		answers(t, "Commit", x.s.Commit(), api.OK)
		x.was, x.marks = maps.Clone(x.now), nil
	case n < 62:
		x.s.Abort()
		x.now, x.marks = maps.Clone(x.was), nil
	case n < 63:
		x.s = open(t, x.d) // and what was not committed is gone
		x.now, x.marks = maps.Clone(x.was), nil
	default:
		x.kill(t, a)
	}
}

// put puts a pair, which may be refused.
func (x *both) put(t *testing.T, k, v string) {
	t.Helper()
	want := api.OK
	switch {
	case k == "":
		want = api.ErrArg
	case len(k) > 256 || len(v) > 1024:
		want = api.ErrLong
	}
	if want == api.OK {
		x.now.tryPut(t, x.s, k, v)
		return
	}
	nothing(t, "Put of what may not be", x.s, func() {
		answers(t, "Put", tree.Put(x.s, []byte(k), []byte(v)), want)
	})
}

// back goes back to a mark, if there is one.
func (x *both) back(t *testing.T, n int) {
	t.Helper()
	if len(x.marks) == 0 {
		return
	}
	m := 1 + n%len(x.marks)
	answers(t, "Back", x.s.Back(m), api.OK)
	x.now, x.marks = maps.Clone(x.marks[m-1]), x.marks[:m]
}

// kill commits, and the power may go meanwhile: what is there then was there ahead of it, or is what was committed.
func (x *both) kill(t *testing.T, a *acts) {
	t.Helper()
	x.d.Fuse(a.next() % 12)
	e := x.s.Commit()
	if e == api.ErrDead {
		refusals(t, "dead", x.s, api.ErrDead)
	}
	x.d.Restart([]int{a.next(), a.next(), 255})
	x.s, x.marks = open(t, x.d), nil
	l, _ := tree.Range(x.s, nil, nil)
	there := pairs{}
	for _, p := range l {
		there[string(p.Key)] = string(p.Value)
	}
	if e != api.OK && maps.Equal(there, x.was) {
		x.now = x.was
	}
	x.was = maps.Clone(x.now)
}

// run does all that b says.
func run(t *testing.T, b []byte) {
	a := &acts{b}
	d := newDisk(t, 4+a.next()%50)
	x := &both{d: d, s: open(t, d), now: pairs{}, was: pairs{}}
	for i := 0; len(a.b) > 0; i++ {
		if x.follow(t, a); i%10 == 0 {
			x.now.looks(t, x.s)
		}
	}
	x.now.looks(t, x.s)
}

// P6.5, over runs of any acts, the store's own among them.
func TestAgainstTheModel(t *testing.T) {
	random := rand.New(rand.NewSource(6))
	for range 25 {
		b := make([]byte, 1200)
		random.Read(b)
		run(t, b)
	}
}

// FuzzTree seeks acts by which a tree is another one than a plain map.
func FuzzTree(f *testing.F) {
	f.Add([]byte{20, 0, 1, 5, 7, 58, 0, 2, 5, 9, 30, 1, 5, 60, 50, 0, 3, 5, 250, 54, 0})
	f.Add([]byte{1, 0, 1, 5, 230, 0, 0, 2, 5, 230, 0, 0, 3, 5, 230, 0, 0, 4, 5, 230, 0, 63, 2, 255, 255})
	f.Fuzz(func(t *testing.T, b []byte) {
		if len(b) > 1500 {
			b = b[:1500]
		}
		run(t, b)
	})
}
