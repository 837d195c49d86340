package tree_test

import (
	"bytes"
	"fmt"
	"math/rand"
	"strings"
	"testing"

	"quitrent/api"
	"quitrent/store"
	"quitrent/tree"
)

// Pages as the tree lays them, by hand: a level, and items, each of a key and a value, or a page's number.

func leaf(l ...string) []byte { return upper(0, l...) }

func upper(level int, l ...string) []byte {
	b := []byte{byte(level)}
	for i := 0; i+1 < len(l); i += 2 {
		k, v := l[i], l[i+1]
		b = append(b, byte(len(k)>>8), byte(len(k)), byte(len(v)>>8), byte(len(v)))
		b = append(append(b, k...), v...)
	}
	return b
}

// page is a page's number as the tree lays it.
func page(p int) string { return string([]byte{byte(p >> 8), byte(p)}) }

// laid is a store on whose pages, from 2 on, these bytes stand; the last one is the root.
func laid(t testing.TB, pages ...[]byte) *store.Store {
	t.Helper()
	s := made(t, len(pages)+40)
	for i, b := range pages {
		if p, e := s.Take(b); p != 2+i || e != api.OK {
			t.Fatalf("Take: %d, %v", p, e)
		}
	}
	answers(t, "SetRoot", s.SetRoot(1+len(pages)), api.OK)
	return s
}

// broken fails where a call of a key that leads to what is none of a tree, or of all of it, answers anything but ErrBroken, and zero beside it, or does anything.
func broken(t *testing.T, name string, s *store.Store, key string) {
	t.Helper()
	nothing(t, name, s, func() {
		k := []byte(key)
		if v, ok, e := tree.Get(s, k); len(v) != 0 || ok || e != api.ErrBroken {
			t.Errorf("%s: Get: %q, %v, %v", name, v, ok, e)
		}
		for _, v := range []string{"", "value", long("value", 1024)} {
			if e := tree.Put(s, k, []byte(v)); e != api.ErrBroken {
				t.Errorf("%s: Put: %v", name, e)
			}
		}
		if was, e := tree.Delete(s, k); was || e != api.ErrBroken {
			t.Errorf("%s: Delete: %v, %v", name, was, e)
		}
		if l, e := tree.Range(s, nil, nil); len(l) != 0 || e != api.ErrBroken {
			t.Errorf("%s: Range: %q, %v", name, l, e)
		}
		if l, e := tree.Range(s, k, []byte(key+"\x00")); len(l) != 0 || e != api.ErrBroken {
			t.Errorf("%s: Range: %q, %v", name, l, e)
		}
		if a, b, c, e := tree.Size(s); a != 0 || b != 0 || c != 0 || e != api.ErrBroken {
			t.Errorf("%s: Size: %d, %d, %d, %v", name, a, b, c, e)
		}
		answers(t, name+": Put of no key", tree.Put(s, nil, nil), api.ErrArg)
		answers(t, name+": Put of a long key", tree.Put(s, make([]byte, 257), nil), api.ErrLong)
	})
}

// What is laid by hand as it should be is a tree: so the others here are none for the reasons that they name.
func TestTreeByHand(t *testing.T) {
	s := laid(t, leaf("a", "1", "b", ""), leaf("k", "2"), leaf("ka", "3", "kb", "4"), leaf("z", "5"),
		upper(1, "", page(2), "k", page(3)), upper(1, "ka", page(4), "x", page(5)), upper(2, "", page(6), "ka", page(7)))
	m := pairs{"a": "1", "b": "", "k": "2", "ka": "3", "kb": "4", "z": "5"}
	looks := func() {
		m.ranges(t, s, "", "")
		for k := range m {
			m.gets(t, s, k)
		}
	}
	looks()
	sizes(t, s, 6, 7, 3) // on more pages than the tree itself would take
	for _, k := range []string{"c", "x", "kab", "\xff"} {
		m.put(t, s, k, long(k, 1000))
		looks()
	}
	for len(m) > 0 {
		m.remove(t, s, m.key(len(m)/2))
		looks()
	}
	sizes(t, s, 0, 0, 0)
	if n := len(pagesOf(s)); n != 0 {
		t.Errorf("%d pages are taken", n)
	}
}

// P6.1 to P6.4: bytes that are no page of a tree.
func TestRootThatIsNone(t *testing.T) {
	good := leaf("a", "1", "b", "2")
	for name, b := range map[string][]byte{
		"no bytes":                      nil,
		"a byte 0":                      {0},
		"a byte 1":                      {1},
		"bytes 0":                       make([]byte, 100),
		"a page of bytes 0":             make([]byte, api.Room),
		"a page of bytes 255":           bytes.Repeat([]byte{255}, api.Room),
		"a text":                        []byte("none of a tree"),
		"a long text":                   []byte(strings.Repeat("none of a tree", 280)),
		"a leaf without pairs":          leaf(),
		"a key of no bytes":             leaf("", "1"),
		"a key of no bytes, and others": leaf("", "1", "a", "2"),
		"a key that is too long":        leaf(long("a", 257), "1"),
		"a value that is too long":      leaf("a", long("1", 1025)),
		"keys out of order":             leaf("b", "1", "a", "2"),
		"a key twice":                   leaf("a", "1", "a", "2"),
		"a key behind one it begins":    leaf("aa", "1", "a", "2"),
		"a byte more":                   append(leaf("a", "1"), 0),
		"four bytes more":               append(leaf("a", "1"), 0, 0, 0, 0),
		"a byte fewer":                  good[:len(good)-1],
		"a key cut off":                 good[:len(good)-2],
		"no key where one is told":      good[:len(good)-3],
		"half an item's lengths":        good[:len(good)-4],
		"lengths beyond the page":       {0, 1, 0, 4, 0, 'a'},
		"a level that is too high":      upper(8, "", page(2), "k", page(2)),
		"the highest level":             upper(255, "", page(2), "k", page(2)),
	} {
		s := laid(t, b)
		broken(t, name, s, "a")
		broken(t, name, s, "k")
		answers(t, "Commit", s.Commit(), api.OK)
		broken(t, name+", committed", s, "a")
	}
	s := laid(t, good)
	m := pairs{"a": "1", "b": "2"}
	m.looks(t, s)
}

// Pages that lead to what they may not: all ways to them end.
func TestPagesThatLeadAstray(t *testing.T) {
	a, k, z := leaf("a", "1"), leaf("k", "2"), leaf("z", "3")
	self := func(level int) []byte { return upper(level, "", page(4), "k", page(4)) } // as page 4
	for name, c := range map[string]struct {
		key   string
		pages [][]byte
	}{
		"a page above one alone":           {"a", [][]byte{a, k, upper(1, "", page(2))}},
		"a page above none":                {"a", [][]byte{a, k, upper(1)}},
		"no lower end":                     {"a", [][]byte{a, k, upper(1, "a", page(2), "k", page(3))}},
		"pages out of order":               {"a", [][]byte{a, k, z, upper(1, "", page(2), "z", page(4), "k", page(3))}},
		"a key between pages twice":        {"a", [][]byte{a, k, z, upper(1, "", page(2), "k", page(3), "k", page(4))}},
		"a number of one byte":             {"a", [][]byte{a, k, upper(1, "", "\x02", "k", page(3))}},
		"a number of three bytes":          {"a", [][]byte{a, k, upper(1, "", "\x00\x00\x02", "k", page(3))}},
		"a long key between pages":         {"a", [][]byte{a, k, upper(1, "", page(2), long("k", 257), page(3))}},
		"a head":                           {"a", [][]byte{a, k, upper(1, "", page(0), "k", page(3))}},
		"the other head":                   {"a", [][]byte{a, k, upper(1, "", page(1), "k", page(3))}},
		"a page that is free":              {"k", [][]byte{a, k, upper(1, "", page(2), "k", page(9))}},
		"a page beyond the disk":           {"k", [][]byte{a, k, upper(1, "", page(2), "k", page(4096))}},
		"a number beyond all":              {"k", [][]byte{a, k, upper(1, "", page(2), "k", page(65535))}},
		"the page itself":                  {"a", [][]byte{a, k, self(1)}},
		"the page itself, of level 2":      {"a", [][]byte{a, k, self(2)}},
		"the page above":                   {"k", [][]byte{a, upper(1, "", page(2), "k", page(4)), upper(2, "", page(3), "x", page(3))}},
		"a leaf two levels below":          {"a", [][]byte{a, k, upper(2, "", page(2), "k", page(3))}},
		"a page of the same level":         {"a", [][]byte{a, k, upper(1, "", page(2), "k", page(3)), upper(1, "", page(4), "x", page(3))}},
		"what is none":                     {"k", [][]byte{a, []byte("none of a tree"), upper(1, "", page(2), "k", page(3))}},
		"an empty leaf":                    {"k", [][]byte{a, leaf(), upper(1, "", page(2), "k", page(3))}},
		"a key below its page's":           {"k", [][]byte{a, leaf("j", "1"), upper(1, "", page(2), "k", page(3))}},
		"a key beyond its page's":          {"a", [][]byte{leaf("a", "1", "k", "2"), k, upper(1, "", page(2), "k", page(3))}},
		"a leaf twice":                     {"k", [][]byte{a, k, upper(1, "", page(2), "k", page(2))}},
		"a page that begins amiss":         {"x", [][]byte{a, k, z, upper(1, "", page(2), "k", page(3)), upper(1, "y", page(3), "z", page(4)), upper(2, "", page(5), "x", page(6))}},
		"a page that goes beyond":          {"a", [][]byte{a, k, z, upper(1, "", page(2), "k", page(3)), upper(1, "c", page(3), "z", page(4)), upper(2, "", page(5), "c", page(6))}},
		"a page above leaves twice":        {"x", [][]byte{a, k, z, upper(1, "", page(2), "k", page(3)), upper(2, "", page(5), "x", page(5))}},
		"a page beside it that is none":    {"k", [][]byte{a, k, upper(1, "", page(9), "k", page(3))}},
		"a page beside it of another kind": {"k", [][]byte{upper(1, "", page(2), "b", page(2)), k, upper(1, "", page(2), "k", page(3))}},
	} {
		s := laid(t, c.pages...)
		if strings.Contains(name, "beside") {
			beside(t, name, s, c.key)
			continue
		}
		broken(t, name, s, c.key)
	}
}

// beside: what is asked of the key's own leaf alone is answered; what needs the one beside it is not, nor is what needs all.
func beside(t *testing.T, name string, s *store.Store, key string) {
	t.Helper()
	if _, ok, e := tree.Get(s, []byte(key)); !ok || e != api.OK {
		t.Errorf("%s: Get: %v, %v", name, ok, e)
	}
	nothing(t, name, s, func() {
		if was, e := tree.Delete(s, []byte(key)); was || e != api.ErrBroken {
			t.Errorf("%s: Delete: %v, %v", name, was, e)
		}
		answers(t, name+": Put", tree.Put(s, []byte(key), []byte("of few bytes")), api.ErrBroken)
		if l, e := tree.Range(s, nil, nil); len(l) != 0 || e != api.ErrBroken {
			t.Errorf("%s: Range: %q, %v", name, l, e)
		}
	})
}

// Pages that lead to one another so often that there would be no end to all ways, if any but one were gone.
func TestManyWaysToOnePage(t *testing.T) {
	var names []string
	for i := range 400 {
		names = append(names, fmt.Sprintf("%03d", i))
	}
	pages := [][]byte{leaf("000", "1")}
	for level := 1; level < 8; level++ {
		l := []string{"", page(1 + len(pages))}
		for _, n := range names {
			l = append(l, n, page(1+len(pages)))
		}
		pages = append(pages, upper(level, l...))
	}
	broken(t, "many ways", laid(t, pages...), "200")
}

// each calls everything of s, and fails where an answer may not be, whatever its pages hold. (A panic fails by itself.)
func each(t testing.TB, s *store.Store, keys ...string) {
	t.Helper()
	may := func(call string, e api.Errno) {
		t.Helper()
		if e != api.OK && e != api.ErrBroken && e != api.ErrFull {
			t.Errorf("%s: %v", call, e)
		}
	}
	for _, k := range keys {
		v, ok, e := tree.Get(s, []byte(k))
		may("Get", e)
		if !ok && len(v) != 0 || e != api.OK && ok {
			t.Errorf("Get: %q, %v, %v", v, ok, e)
		}
		l, e := tree.Range(s, []byte(k), []byte(k+"m"))
		may("Range", e)
		if e != api.OK && len(l) != 0 {
			t.Errorf("Range: %q, %v", l, e)
		}
		mark := s.Mark()
		for range 2 {
			may("Put", tree.Put(s, []byte(k), []byte(long("v", 1000))))
			_, e = tree.Delete(s, []byte(k))
			may("Delete", e)
			_, _, _, e = tree.Size(s)
			may("Size", e)
		}
		answers(t, "Back", s.Back(mark), api.OK)
	}
}

// A tree's pages, with a byte that is another one, or cut off, or of anything at all.
func TestSpoiltPages(t *testing.T) {
	random := rand.New(rand.NewSource(68))
	s, m := made(t, 60), pairs{}
	for i := range 60 {
		m.put(t, s, fmt.Sprintf("k%02d", i), long("v", 150))
	}
	root, _ := s.Read(s.Root())
	keys := []string{"a", "k00", "k30", "k59", "z"}
	spoilt := func(b []byte) {
		mark := s.Mark()
		p, e := s.Take(b)
		answers(t, "Take", e, api.OK)
		answers(t, "SetRoot", s.SetRoot(p), api.OK)
		each(t, s, keys...)
		answers(t, "Back", s.Back(mark), api.OK)
	}
	for i := range root {
		for _, x := range []byte{1, 2, 128, 255} {
			b := bytes.Clone(root)
			b[i] ^= x
			spoilt(b)
		}
		spoilt(root[:i])
	}
	other, _ := s.Read(3)
	for range 300 {
		b := bytes.Clone(other)
		b[random.Intn(len(b))] = byte(random.Intn(256))
		b[random.Intn(20)] = byte(random.Intn(3))
		spoilt(b)
	}
	for range 300 {
		b := make([]byte, random.Intn(40))
		for i := range b {
			b[i] = byte(random.Intn(4))
		}
		spoilt(b)
		random.Read(b)
		spoilt(b)
	}
	m.looks(t, s)
}

// A page of the tree that is not whole on the disk: calls that go by it answer ErrBroken, and do nothing; others are as they were.
func TestPagesThatAreNotWhole(t *testing.T) {
	for _, n := range []int{2, 30, 90} {
		d := newDisk(t, 120)
		s, m := open(t, d), pairs{}
		name := func(i int) string { return fmt.Sprintf("k%03d", i) }
		for i := range n {
			m.put(t, s, name(i), long("v", 500))
		}
		answers(t, "Commit", s.Commit(), api.OK)
		for p := range pagesOf(s) {
			was, _ := d.Read(p)
			d.Write(p, make([]byte, api.Page))
			d.Flush()
			lost := 0
			for i := range n {
				if v, ok, e := tree.Get(s, []byte(name(i))); e == api.ErrBroken && !ok && len(v) == 0 {
					lost++
				} else {
					m.gets(t, s, name(i))
					m.ranges(t, s, name(i), name(i)+"\x00")
					continue
				}
				nothing(t, "by a page that is not whole", s, func() {
					answers(t, "Put", tree.Put(s, []byte(name(i)), nil), api.ErrBroken)
					if was, e := tree.Delete(s, []byte(name(i))); was || e != api.ErrBroken {
						t.Fatalf("Delete: %v, %v", was, e)
					}
				})
			}
			if lost == 0 || p == s.Root() && lost < n {
				t.Errorf("page %d is not whole, and %d of %d pairs are lost", p, lost, n)
			}
			if l, e := tree.Range(s, nil, nil); len(l) != 0 || e != api.ErrBroken {
				t.Errorf("Range: %d, %v", len(l), e)
			}
			if a, b, c, e := tree.Size(s); a != 0 || b != 0 || c != 0 || e != api.ErrBroken {
				t.Errorf("Size: %d, %d, %d, %v", a, b, c, e)
			}
			d.Write(p, was)
			d.Flush()
		}
		m.looks(t, s)
	}
}

// FuzzPages seeks pages by which a call does not end, or answers what it may not.
func FuzzPages(f *testing.F) {
	f.Add(leaf("a", "1", "k", "2"), leaf("k", "3"), upper(1, "", page(2), "k", page(3)))
	f.Add(upper(1, "", page(4), "k", page(4)), leaf("k", "3"), upper(2, "", page(2), "k", page(4)))
	f.Add([]byte(nil), []byte{0}, []byte{1, 0, 0, 0, 2, 0, 3})
	f.Fuzz(func(t *testing.T, a, b, c []byte) {
		most := func(l []byte) []byte { return l[:min(len(l), api.Room)] }
		each(t, laid(t, most(a), most(b), most(c)), "\x00", "a", "k", "z")
	})
}
