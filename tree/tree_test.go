package tree_test

import (
	"bytes"
	"maps"
	"math/rand"
	"slices"
	"strconv"
	"strings"
	"testing"

	"quitrent/api"
	"quitrent/store"
	"quitrent/tree"
)

// The chapter's examples.
func TestExamples(t *testing.T) {
	s, m := made(t, 10), pairs{}
	m.put(t, s, "b", "2")
	m.put(t, s, "a", "1")
	m.put(t, s, "b", "3")
	if v, ok, e := tree.Get(s, []byte("b")); string(v) != "3" || !ok || e != api.OK {
		t.Errorf("Get(b): %q, %v, %v", v, ok, e)
	}
	l, e := tree.Range(s, nil, nil)
	if len(l) != 2 || e != api.OK || string(l[0].Key)+string(l[0].Value)+string(l[1].Key)+string(l[1].Value) != "a1b3" {
		t.Errorf("Range: %q, %v", l, e)
	}

	sizes(t, s, 2, 1, 1)
	for _, c := range []struct {
		key string
		was bool
	}{{"a", true}, {"a", false}, {"b", true}} {
		if was, e := tree.Delete(s, []byte(c.key)); was != c.was || e != api.OK {
			t.Errorf("Delete(%s): %v, %v, not %v", c.key, was, e, c.was)
		}
	}
	sizes(t, s, 0, 0, 0)

	answers(t, "Put(none, 1)", tree.Put(s, nil, []byte("1")), api.ErrArg)
	answers(t, "Put(257 bytes, 1)", tree.Put(s, make([]byte, 257), []byte("1")), api.ErrLong)
	answers(t, "Put(a, 1025 bytes)", tree.Put(s, []byte("a"), make([]byte, 1025)), api.ErrLong)
}

// sizes fails where Size answers other numbers.
func sizes(t testing.TB, s *store.Store, pairs, pages, deep int) {
	t.Helper()
	if a, b, c, e := tree.Size(s); a != pairs || b != pages || c != deep || e != api.OK {
		t.Errorf("Size: %d, %d, %d, %v, not %d, %d, %d", a, b, c, e, pairs, pages, deep)
	}
}

// lengths are some of keys and of values, that may be and that may not.
var lengths = []int{0, 1, 255, 256, 257, 1023, 1024, 1025, 5000}

// refusals fails where a call of s, whatever it is handed, answers anything but this error, and zero beside it.
func refusals(t *testing.T, name string, s *store.Store, want api.Errno) {
	t.Helper()
	for _, n := range lengths {
		k := bytes.Repeat([]byte{'a'}, n)
		if v, ok, e := tree.Get(s, k); len(v) != 0 || ok || e != want {
			t.Errorf("%s: Get: %q, %v, %v", name, v, ok, e)
		}
		for _, n := range lengths {
			answers(t, name+": Put", tree.Put(s, k, make([]byte, n)), want)
			if l, e := tree.Range(s, k, make([]byte, n)); len(l) != 0 || e != want {
				t.Errorf("%s: Range: %d, %v", name, len(l), e)
			}
		}
		if was, e := tree.Delete(s, k); was || e != want {
			t.Errorf("%s: Delete: %v, %v", name, was, e)
		}
	}
	if a, b, c, e := tree.Size(s); a != 0 || b != 0 || c != 0 || e != want {
		t.Errorf("%s: Size: %d, %d, %d, %v", name, a, b, c, e)
	}
}

// ErrNil and ErrDead go ahead of all else.
func TestNoStore(t *testing.T) {
	refusals(t, "nil", nil, api.ErrNil)
	refusals(t, "one that Open did not make", &store.Store{}, api.ErrNil)
}

func TestDeadStore(t *testing.T) {
	d := newDisk(t, 8)
	s, m := open(t, d), pairs{}
	m.put(t, s, "a", "1")
	answers(t, "Commit", s.Commit(), api.OK)
	m.put(t, s, "b", "2")
	d.Kill()
	refusals(t, "of a dead disk", s, api.ErrDead)
	d.Restart(nil)
	m.looks(t, s) // no Commit met that
	d.Fuse(0)
	answers(t, "Commit", s.Commit(), api.ErrDead)
	refusals(t, "dead", s, api.ErrDead)
	d.Restart(nil)
	refusals(t, "dead for good", s, api.ErrDead)
	delete(m, "b")
	m.looks(t, open(t, d))
}

// A dead store whose pages are broken, or all taken, is dead ahead of that.
func TestDeadAheadOfOthers(t *testing.T) {
	d := newDisk(t, 4)
	s := open(t, d)
	p, _ := s.Take([]byte("none of a tree"))
	s.SetRoot(p)
	s.Take(nil)
	d.Kill()
	refusals(t, "dead, full, and broken", s, api.ErrDead)
}

// P6.2: which keys and values may be put; ErrArg goes ahead of ErrLong, both ahead of ErrFull and ErrBroken.
func TestPutWhatMayNotBe(t *testing.T) {
	full := made(t, 4)
	if e := tree.Put(full, []byte("k"), []byte("v")); e != api.OK {
		t.Fatal(e)
	}
	full.Take(nil)
	broken := made(t, 8)
	p, _ := broken.Take([]byte("none of a tree"))
	broken.SetRoot(p)
	for name, s := range map[string]*store.Store{"new": made(t, 8), "full": full, "broken": broken} {
		for _, n := range lengths {
			for _, k := range []int{0, 257, 258, 512, 65536 + 1} {
				want := api.ErrLong
				if k == 0 {
					want = api.ErrArg
				}
				nothing(t, name, s, func() {
					answers(t, name+": Put", tree.Put(s, bytes.Repeat([]byte{'a'}, k), make([]byte, n)), want)
				})
			}
		}
		nothing(t, name, s, func() {
			answers(t, name+": Put(nil, nil)", tree.Put(s, nil, nil), api.ErrArg)
			for _, k := range []int{1, 2, 255, 256} {
				for _, n := range []int{1025, 1026, 65536, 65536 + 1, 1 << 20} {
					answers(t, name+": Put", tree.Put(s, bytes.Repeat([]byte{'a'}, k), make([]byte, n)), api.ErrLong)
				}
			}
		})
	}
}

func TestPutWhatMayBe(t *testing.T) {
	s, m := made(t, 200), pairs{}
	for _, k := range []int{1, 2, 100, 254, 255, 256} {
		for i, n := range []int{0, 1, 100, 255, 256, 257, 1023, 1024} {
			m.put(t, s, strings.Repeat(string(rune('a'+i)), k), long("v", n))
		}
	}
	m.looks(t, s)
	for _, v := range [][]byte{nil, {}} {
		if e := tree.Put(s, []byte("of none"), v); e != api.OK {
			t.Fatal(e)
		}
		m["of none"] = ""
		m.looks(t, s)
	}
}

// A call that is refused, or finds nothing to do, is no change: a Commit behind it has nothing to write.
func TestWhatIsNoChange(t *testing.T) {
	d := newDisk(t, 8)
	s, m := open(t, d), pairs{}
	calls := func(name string) {
		writesNothing(t, name, d, s, func() {
			answers(t, "Put", tree.Put(s, nil, nil), api.ErrArg)
			answers(t, "Put", tree.Put(s, make([]byte, 257), nil), api.ErrLong)
			answers(t, "Put", tree.Put(s, []byte("a"), make([]byte, 1025)), api.ErrLong)
			m.remove(t, s, "x")
			m.remove(t, s, "")
			m.gets(t, s, "x")
			m.looks(t, s)
		})
		if n := s.Mark(); n != 1 {
			t.Errorf("%s: the first mark is %d", name, n)
		}
		s.Abort()
	}
	calls("in a new store")
	m.put(t, s, "a", "1")
	answers(t, "Commit", s.Commit(), api.OK)
	calls("behind a Commit")
}

// Get and Delete of what there is not, and of what no key is.
func TestWhatThereIsNot(t *testing.T) {
	s, m := made(t, 300), pairs{}
	none := func() {
		t.Helper()
		nothing(t, "calls of what there is not", s, func() {
			for _, k := range []string{"", "\x00", "k", "k0", "k00\x00", "k2000", "k500.5", "\xff", long("k", 256), long("k", 257), long("k", 5000)} {
				m.gets(t, s, k)
				m.remove(t, s, k)
			}
			if v, ok, e := tree.Get(s, nil); len(v) != 0 || ok || e != api.OK {
				t.Errorf("Get(nil): %q, %v, %v", v, ok, e)
			}
			if was, e := tree.Delete(s, nil); was || e != api.OK {
				t.Errorf("Delete(nil): %v, %v", was, e)
			}
		})
	}
	none()
	sizes(t, s, 0, 0, 0)
	m.put(t, s, "k500", "v")
	none()
	for i := range 1000 {
		m.put(t, s, "k"+strconv.Itoa(1000+i), long("v", 50))
	}
	none()
}

// P6.1: what is between two keys, whether these are there or not.
func TestRange(t *testing.T) {
	ends := []string{"", "\x00", "a", "k", "k099", "k100", "k100\x00", "k101", "k1", "k2", "k255", "k256", "k257", "k299", "k300", "k301", "k5", "l", "\xff", long("k", 256), long("k2", 257), long("k2", 5000), strings.Repeat("\xff", 300)}
	for _, size := range []int{0, 10, 100, 900} { // of the values
		s, m := made(t, 300), pairs{}
		for _, some := range []int{0, 1, 200} {
			for i := range some {
				m.put(t, s, "k"+strconv.Itoa(100+i), long(strconv.Itoa(i), size))
			}
			for _, from := range ends {
				for _, to := range ends { // some of them past, or equal
					m.ranges(t, s, from, to)
				}
			}
		}
		for i := range 200 { // each one alone
			k := "k" + strconv.Itoa(100+i)
			m.ranges(t, s, k, k+"\x00")
			m.ranges(t, s, k, k)
		}
		for _, of := range [][2][]byte{{nil, nil}, {{}, nil}, {nil, {}}, {{}, {}}} {
			if l, e := tree.Range(s, of[0], of[1]); len(l) != 200 || e != api.OK {
				t.Errorf("Range of no bytes: %d, %v", len(l), e)
			}
		}
	}
}

// The order is that of the bytes, a key ahead of those that it begins.
func TestOrder(t *testing.T) {
	var all []string
	for n := 1; n <= 256; n += 5 { // each begins the next one
		all = append(all, strings.Repeat("\x00", n), strings.Repeat("\xff", n), strings.Repeat("m", n), strings.Repeat("m", n-1)+"\x00", strings.Repeat("m", n-1)+"\xff")
	}
	for b := range 256 {
		all = append(all, string([]byte{byte(b)}), string([]byte{byte(b), 0}), string([]byte{'x', byte(b), 255}))
	}
	for _, size := range []int{0, 40, 1000} {
		s, m := made(t, 1500), pairs{}
		for _, i := range rand.New(rand.NewSource(61)).Perm(len(all)) {
			m.put(t, s, all[i], long("v", size))
		}
		m.looks(t, s)
		for _, from := range all[20:32] {
			for _, to := range all[100:112] {
				m.ranges(t, s, from, to)
			}
		}
		for i, k := range all {
			if i%3 > 0 {
				m.remove(t, s, k)
			}
		}
		m.looks(t, s)
	}
}

// P6.2: a key has one value, the last one; of the same one nothing changes.
func TestPutAgain(t *testing.T) {
	d := newDisk(t, 400)
	s, m := open(t, d), pairs{}
	for i := range 300 {
		m.put(t, s, "k"+strconv.Itoa(i), long("v", i))
	}
	random := rand.New(rand.NewSource(62))
	for i := range 3000 { // greater and smaller ones
		m.put(t, s, "k"+strconv.Itoa(random.Intn(300)), long(strconv.Itoa(i), random.Intn(2)*random.Intn(1025)))
		m.sized(t, s)
	}
	m.looks(t, s)
	answers(t, "Commit", s.Commit(), api.OK)
	nothing(t, "Put of the same", s, func() {
		writesNothing(t, "Put of the same", d, s, func() {
			for k, v := range m {
				m.put(t, s, k, v)
			}
		})
	})
	// A value that only begins with the same bytes, or is begun by them, is another one.
	for _, v := range []string{"v", "vv", "v", "", "v"} {
		m.put(t, s, "k7", v)
		m.gets(t, s, "k7")
	}
	m.looks(t, s)
}

// What is handed in is neither changed nor kept; what is handed out is new.
func TestMemory(t *testing.T) {
	s, m := made(t, 40), pairs{}
	for i := range 30 {
		m.put(t, s, "k"+strconv.Itoa(10+i), long("v", 300))
	}
	spoil := func(l ...[]byte) {
		for _, b := range l {
			_ = append(b, "yyyyyyyyy"...)
			for i := range b {
				b[i] = 'x'
			}
		}
	}
	whole := []byte("k99value|k50from|k60to|k20get")
	key, value := whole[:3], whole[3:8]
	if e := tree.Put(s, key, value); e != api.OK {
		t.Fatal(e)
	}
	tree.Range(s, whole[9:12], whole[17:20])
	tree.Get(s, whole[23:26])
	tree.Delete(s, whole[26:29])
	if string(whole) != "k99value|k50from|k60to|k20get" {
		t.Errorf("what was handed in is %q now", whole)
	}
	spoil(key, value)
	m["k99"] = "value"
	m.looks(t, s)

	deleted := []byte("k15")
	if was, e := tree.Delete(s, deleted); !was || e != api.OK {
		t.Fatal(e)
	}
	if string(deleted) != "k15" {
		t.Errorf("what was handed in is %q now", deleted)
	}
	delete(m, "k15")
	for range 2 { // in the change, and behind a Commit
		v, _, _ := tree.Get(s, []byte("k20"))
		w, _, _ := tree.Get(s, []byte("k20"))
		spoil(v)
		if string(w) != m["k20"] {
			t.Error("two answers share memory")
		}
		l, _ := tree.Range(s, nil, nil)
		for i, p := range l {
			spoil(p.Key)
			if string(p.Value) != m[m.key(i)] {
				t.Fatal("a value shares memory with a key")
			}
			spoil(p.Value)
			if i+1 < len(l) && (string(l[i+1].Key) != m.key(i+1) || string(l[i+1].Value) != m[m.key(i+1)]) {
				t.Fatal("a pair shares memory with another one")
			}
		}
		m.looks(t, s)
		answers(t, "Commit", s.Commit(), api.OK)
	}
}

// key is the i-th one.
func (m pairs) key(i int) string { return slices.Sorted(maps.Keys(m))[i] }

// P6.4, and how deep: by a value that becomes another one of as many bytes, just the pages from the root to its leaf change.
func TestSize(t *testing.T) {
	s, m := made(t, 2000), pairs{}
	depths := map[int]bool{}
	for i := range 700 {
		m.put(t, s, long(strconv.Itoa(i*37%700), 256), long("v", 1024))
		if i%9 > 0 && i > 20 {
			continue
		}
		pages, deep := m.sized(t, s)
		ahead := pagesOf(s)
		if len(ahead) != pages || s.Left() != 2000-2-pages {
			t.Fatalf("%d pages are taken, not %d", len(ahead), pages)
		}
		m.put(t, s, long(strconv.Itoa(i*37%700), 256), long("w", 1024))
		kept, fresh := 0, 0
		for p := range pagesOf(s) {
			if _, ok := ahead[p]; ok {
				kept++
			} else {
				fresh++
			}
		}
		if fresh != deep || kept != pages-deep {
			t.Fatalf("of %d pages, %d deep, %d changed", pages, deep, fresh)
		}
		depths[deep] = true
	}
	if !depths[1] || !depths[2] || !depths[3] || !depths[4] {
		t.Errorf("there were trees of these depths: %v", depths)
	}
	m.looks(t, s)
}
