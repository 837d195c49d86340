package base_test

import (
	"bytes"
	"fmt"
	"strconv"
	"strings"
	"testing"

	"quitrent/api"
	"quitrent/base"
	"quitrent/disk"
	"quitrent/store"
	"quitrent/tree"
)

// The chapter's examples.
func TestExamples(t *testing.T) {
	d, b := made(t, 30)
	answers(t, "Put(a, 1)", b.Put([]byte("a"), []byte("1")), api.OK)
	answers(t, "Commit", b.Commit(), api.OK)
	answers(t, "Put(b, 2)", b.Put([]byte("b"), []byte("2")), api.OK)
	d.Kill()
	d.Restart(nil)
	l, e := open(t, d).Range(nil, nil)
	if len(l) != 1 || string(l[0].Key) != "a" || string(l[0].Value) != "1" || e != api.OK {
		t.Errorf("Range: %q, %v", l, e)
	}

	_, b = made(t, 30)
	answers(t, "Put(a, 1)", b.Put([]byte("a"), []byte("1")), api.OK)
	b.Abort()
	if v, ok, e := b.Get([]byte("a")); len(v) != 0 || ok || e != api.OK {
		t.Errorf("Get(a): %q, %v, %v", v, ok, e)
	}

	opensNot(t, "a disk of 3 pages", newDisk(t, 3), api.ErrArg)
	opensNot(t, "nil", nil, api.ErrNil)
}

// P7.2: Get, Put, Delete, Range.

// lengths are some of keys and of values, that may be and that may not.
var lengths = []int{0, 1, 255, 256, 257, 1023, 1024, 1025, 5000}

// refusals fails where a call of b, whatever it is handed, answers anything but this error, and zero beside it.
func refusals(t testing.TB, name string, b *base.Base, want api.Errno) {
	t.Helper()
	for _, n := range lengths {
		k := bytes.Repeat([]byte{'a'}, n)
		if v, ok, e := b.Get(k); v != nil || ok || e != want {
			t.Errorf("%s: Get: %q, %v, %v", name, v, ok, e)
		}
		for _, n := range lengths {
			answers(t, name+": Put", b.Put(k, make([]byte, n)), want)
			if l, e := b.Range(k, make([]byte, n)); l != nil || e != want {
				t.Errorf("%s: Range: %d, %v", name, len(l), e)
			}
		}
		if was, e := b.Delete(k); was || e != want {
			t.Errorf("%s: Delete: %v, %v", name, was, e)
		}
	}
	if l, e := b.Range(nil, nil); l != nil || e != want {
		t.Errorf("%s: Range(none, none): %d, %v", name, len(l), e)
	}
}

// Each call of a nil base; of one that Open did not make they are those of no store.
func TestNil(t *testing.T) {
	for name, b := range map[string]*base.Base{"nil": nil, "one that Open did not make": {}, "one of no store": {Store: &store.Store{}}} {
		refusals(t, name, b, api.ErrNil)
		answers(t, name+": Commit", b.Commit(), api.ErrNil)
		b.Abort()
		dead(t, "of "+name, b, false)
		refusals(t, name+", behind Abort", b, api.ErrNil)
	}
}

// states are bases, and beside each a store of the same past, made anew.
func states(t testing.TB) map[string]func() (*base.Base, *store.Store) {
	t.Helper()
	twins := func(pages int, act func(d *disk.Disk, put func(k, v string) api.Errno, commit func() api.Errno)) (*base.Base, *store.Store) {
		d, b := made(t, pages)
		act(d, func(k, v string) api.Errno { return b.Put([]byte(k), []byte(v)) }, b.Commit)
		d = newDisk(t, pages)
		s, e := store.Open(d)
		answers(t, "store.Open", e, api.OK)
		act(d, func(k, v string) api.Errno { return tree.Put(s, []byte(k), []byte(v)) }, s.Commit)
		return b, s
	}
	fill := func(n int, put func(k, v string) api.Errno) {
		for i := range n {
			answers(t, "Put", put(long(fmt.Sprintf("%03d", i), 3+i*50%254), long(strconv.Itoa(i), i*300%1025)), api.OK)
		}
	}
	full := func(put func(k, v string) api.Errno) {
		for i := 0; put(strconv.Itoa(i), long("v", 800)) != api.ErrFull; i++ {
		}
	}
	spoil := func(d *disk.Disk) {
		for at := 2; at < d.Size(); at++ {
			lay(t, d, at, bytes.Repeat([]byte{7}, api.Page))
		}
	}
	return map[string]func() (*base.Base, *store.Store){
		"new": func() (*base.Base, *store.Store) {
			return twins(8, func(*disk.Disk, func(k, v string) api.Errno, func() api.Errno) {})
		},
		"some": func() (*base.Base, *store.Store) {
			return twins(90, func(_ *disk.Disk, put func(k, v string) api.Errno, commit func() api.Errno) {
				fill(40, put)
				commit()
				fill(60, put)
			})
		},
		"full": func() (*base.Base, *store.Store) {
			return twins(9, func(_ *disk.Disk, put func(k, v string) api.Errno, commit func() api.Errno) { full(put) })
		},
		"full, and committed": func() (*base.Base, *store.Store) {
			return twins(9, func(_ *disk.Disk, put func(k, v string) api.Errno, commit func() api.Errno) {
				full(put)
				commit()
			})
		},
		"broken": func() (*base.Base, *store.Store) {
			return twins(60, func(d *disk.Disk, put func(k, v string) api.Errno, commit func() api.Errno) {
				fill(50, put)
				commit()
				spoil(d)
			})
		},
		"none of a tree": func() (*base.Base, *store.Store) {
			return twins(60, func(d *disk.Disk, put func(k, v string) api.Errno, commit func() api.Errno) {
				fill(50, put)
				commit()
				for at := 2; at < d.Size(); at++ {
					lay(t, d, at, noTree(t, at))
				}
			})
		},
		"dead": func() (*base.Base, *store.Store) {
			return twins(9, func(d *disk.Disk, put func(k, v string) api.Errno, commit func() api.Errno) {
				full(put)
				spoil(d)
				d.Kill()
			})
		},
		"dead for good": func() (*base.Base, *store.Store) {
			return twins(9, func(d *disk.Disk, put func(k, v string) api.Errno, commit func() api.Errno) {
				full(put)
				d.Fuse(0)
				commit()
				d.Restart(nil)
			})
		},
	}
}

// noTree is a page that is whole, but none of a tree.
func noTree(t testing.TB, at int) []byte {
	t.Helper()
	return put(t, at, 2, 1, []byte("none of a tree"))
}

// keys are some that there may be, and some that there may not.
var keys = []string{"", "0", "7", "000", "001" + strings.Repeat(".", 50), "0305", "3", "999", long("k", 255), long("k", 256), long("k", 257), long("9", 5000)}

// Whatever is done to a base, it answers what a tree does, error by error.
func TestTreesAnswers(t *testing.T) {
	for name, twins := range states(t) {
		t.Run(name, func(t *testing.T) {
			b, s := twins()
			for range 2 {
				asSame(t, b, s)
				for i, k := range keys {
					for _, n := range lengths {
						if e, f := b.Put([]byte(k), []byte(long("w", n))), tree.Put(s, []byte(k), []byte(long("w", n))); e != f {
							t.Fatalf("Put(%.9q, %d bytes): %v, not %v", k, n, e, f)
						}
					}
					if i%3 != 0 {
						continue
					}
					was, e := b.Delete([]byte(k))
					if want, f := tree.Delete(s, []byte(k)); was != want || e != f {
						t.Fatalf("Delete(%.9q): %v, %v, not %v, %v", k, was, e, want, f)
					}
				}
				asSame(t, b, s)
				if e, f := b.Commit(), s.Commit(); e != f {
					t.Fatalf("Commit: %v, not %v", e, f)
				}
			}
			b.Abort()
			s.Abort()
			asSame(t, b, s)
		})
	}
}

// asSame fails where b answers Get, or Range, otherwise than the tree of s.
func asSame(t *testing.T, b *base.Base, s *store.Store) {
	t.Helper()
	for _, k := range keys {
		v, ok, e := b.Get([]byte(k))
		if w, there, f := tree.Get(s, []byte(k)); !bytes.Equal(v, w) || ok != there || e != f {
			t.Fatalf("Get(%.9q): %.9q, %v, %v, not %.9q, %v, %v", k, v, ok, e, w, there, f)
		}
		for _, to := range keys {
			l, e := b.Range([]byte(k), []byte(to))
			if m, f := tree.Range(s, []byte(k), []byte(to)); !samePairs(l, m) || e != f {
				t.Fatalf("Range(%.9q, %.9q): %d, %v, not %d, %v", k, to, len(l), e, len(m), f)
			}
		}
	}
	if b.Dead() != s.Dead() {
		t.Fatalf("Dead: %v, not %v", b.Dead(), s.Dead())
	}
}

// ErrDead goes ahead of ErrArg, ErrLong, ErrFull and ErrBroken; ErrArg of ErrLong, both of ErrFull and ErrBroken; and what is refused is not done.
func TestOrderOfErrors(t *testing.T) {
	for name, twins := range states(t) {
		b, _ := twins()
		if strings.HasPrefix(name, "dead") {
			refusals(t, name, b, api.ErrDead)
			continue
		}
		ahead, broken := b.Range(nil, nil)
		for _, n := range lengths {
			answers(t, name+": Put of no key", b.Put(nil, bytes.Repeat([]byte{1}, n)), api.ErrArg)
			answers(t, name+": Put of a long key", b.Put(bytes.Repeat([]byte{'1'}, 257), bytes.Repeat([]byte{1}, n)), api.ErrLong)
		}
		answers(t, name+": Put of a long value", b.Put([]byte("1"), bytes.Repeat([]byte{1}, 1025)), api.ErrLong)
		switch {
		case strings.HasPrefix(name, "full"):
			answers(t, name+": Put of more", b.Put([]byte("x"), bytes.Repeat([]byte{1}, 1024)), api.ErrFull)
		case broken != api.OK:
			answers(t, name+": Range", broken, api.ErrBroken)
			answers(t, name+": Put", b.Put([]byte("1"), nil), api.ErrBroken)
			if v, ok, e := b.Get([]byte("1")); v != nil || ok || e != api.ErrBroken {
				t.Errorf("%s: Get: %q, %v, %v", name, v, ok, e)
			}
			if was, e := b.Delete([]byte("1")); was || e != api.ErrBroken {
				t.Errorf("%s: Delete: %v, %v", name, was, e)
			}
		}
		if l, e := b.Range(nil, nil); !samePairs(l, ahead) || e != broken {
			t.Errorf("%s: what was refused is done", name)
		}
	}
}

// What is between two keys, whether these are there or not.
func TestRange(t *testing.T) {
	_, b := made(t, 60)
	m := pairs{}
	for i := range 60 {
		m.put(t, b, "k"+strconv.Itoa(100+i), long(strconv.Itoa(i), i*17))
	}
	ends := []string{"", "\x00", "k", "k100", "k100\x00", "k101", "k12", "k130", "k159", "k160", "l", "\xff", long("k1", 257), long("k1", 5000)}
	for range 2 {
		for _, from := range ends {
			for _, to := range ends {
				m.ranges(t, b, from, to)
			}
		}
		commits(t, b)
	}
}

// Of no bytes are nil and empty ones alike.
func TestNoBytes(t *testing.T) {
	_, b := made(t, 8)
	for _, none := range [][]byte{nil, {}} {
		answers(t, "Put", b.Put(none, []byte("1")), api.ErrArg)
		answers(t, "Put", b.Put([]byte("a"), none), api.OK)
		pairs{"a": ""}.looks(t, b)
		if l, e := b.Range(none, none); len(l) != 1 || e != api.OK {
			t.Errorf("Range: %q, %v", l, e)
		}
		if v, ok, e := b.Get(none); len(v) != 0 || ok || e != api.OK {
			t.Errorf("Get: %q, %v, %v", v, ok, e)
		}
		if was, e := b.Delete(none); was || e != api.OK {
			t.Errorf("Delete: %v, %v", was, e)
		}
	}
}

// What is handed in is neither changed nor kept; what is handed out is new.
func TestMemory(t *testing.T) {
	d, b := made(t, 40)
	m := pairs{}
	for i := range 30 {
		m.put(t, b, "k"+strconv.Itoa(10+i), long("v", 300))
	}
	spoil := func(l ...[]byte) {
		for _, c := range l {
			_ = append(c, "yyyyyyyyy"...)
			for i := range c {
				c[i] = 'x'
			}
		}
	}
	const text = "k99value|k50from|k60to|k20get|k15deleted"
	whole := []byte(text)
	key, value := whole[:3], whole[3:8]
	answers(t, "Put", b.Put(key, value), api.OK)
	b.Range(whole[9:12], whole[17:20])
	b.Get(whole[23:26])
	b.Delete(whole[30:33])
	if string(whole) != text {
		t.Errorf("what was handed in is %q now", whole)
	}
	spoil(key, value, whole[30:33])
	m["k99"] = "value"
	delete(m, "k15")
	m.looks(t, b)
	for range 2 { // in the transaction, and behind its Commit
		v, _, _ := b.Get([]byte("k20"))
		w, _, _ := b.Get([]byte("k20"))
		spoil(v)
		if string(w) != m["k20"] {
			t.Error("two answers share memory")
		}
		l, _ := b.Range(nil, nil)
		want := m.within("", "")
		for i, p := range l {
			if spoil(p.Key); !bytes.Equal(p.Value, want[i].Value) {
				t.Fatal("a value shares memory with a key")
			}
			if spoil(p.Value); !samePairs(l[i+1:], want[i+1:]) {
				t.Fatal("a pair shares memory with another one")
			}
		}
		m.looks(t, b)
		commits(t, b)
		m.looks(t, open(t, d))
	}
}
