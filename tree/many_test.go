package tree_test

import (
	"fmt"
	"maps"
	"math/rand"
	"slices"
	"strconv"
	"testing"

	"quitrent/api"
	"quitrent/store"
	"quitrent/tree"
)

// orders are ways to go through n things.
func orders(n int) map[string][]int {
	forth := make([]int, n)
	for i := range n {
		forth[i] = i
	}
	back := slices.Clone(forth)
	slices.Reverse(back)
	var inward []int
	for i := range n / 2 {
		inward = append(inward, i, n-1-i)
	}
	if n%2 == 1 {
		inward = append(inward, n/2)
	}
	outward := slices.Clone(inward)
	slices.Reverse(outward)
	return map[string][]int{"forth": forth, "back": back, "inward": inward, "outward": outward, "any": rand.New(rand.NewSource(63)).Perm(n)}
}

// kind is pairs of certain lengths.
type kind struct {
	count int
	name  string
	key   func(i int) string
	value func(i int) string
}

func kinds() []kind {
	number := func(i int) string { return fmt.Sprintf("%06d", i) }
	sized := func(n int) func(i int) string {
		return func(i int) string { return long(number(i), n) }
	}
	mixed := func(i int) string { return long(number(i), []int{0, 1, 1024, 30, 1024, 3, 700}[i%7]) }
	return []kind{
		{900, "the least", func(i int) string { return string([]byte{byte(i / 256), byte(i % 256)}) }, sized(0)},
		{250, "the greatest", sized(256), sized(1024)},
		{500, "long keys", sized(256), sized(0)},
		{300, "long keys that are alike", func(i int) string { return long("", 250) + number(i) }, sized(20)},
		{400, "long values", number, sized(1024)},
		{400, "two of which fill most of a page", number, sized(990)},
		{600, "any", func(i int) string { return long(number(i), 6+i*i%251) }, mixed},
		{500, "keys that begin others", func(i int) string { return long("", i/2+1)[:i/2] + string(rune('a'+i%2)) }, sized(100)},
	}
}

// P6.2, P6.3, P6.5, and the chapter's Words: many pairs, put in any order and deleted in any order, on no more pages than may be behind each call, till all are gone, and all pages with them.
func TestManyPairs(t *testing.T) {
	for _, k := range kinds() {
		ways := orders(k.count)
		for _, in := range slices.Sorted(maps.Keys(ways)) {
			out := map[string]string{"forth": "any", "back": "forth", "inward": "back", "outward": "inward", "any": "outward"}[in]
			if k.count%2 == 0 && in == "any" {
				out = "any"
			}
			t.Run(k.name+", "+in+", "+out, func(t *testing.T) {
				t.Parallel()
				fillAndClear(t, k, ways[in], ways[out])
			})
		}
	}
}

// fillAndClear puts all, and deletes all, in these orders.
func fillAndClear(t *testing.T, k kind, in, out []int) {
	s, m := made(t, 1200), pairs{}
	free := s.Left()
	b := 0 // of bytes, 8 a pair among them
	bounded := func(n int) {
		pages := free - s.Left()
		most := 3 + b/1024
		if n == 0 {
			most = 0
		}
		if pages > most {
			t.Fatalf("%d pairs of %d bytes on %d pages, where %d are the most", n, b, pages, most)
		}
	}
	for n, i := range in {
		m.put(t, s, k.key(i), k.value(i))
		b += len(k.key(i)) + len(k.value(i)) + 8
		bounded(n + 1)
		m.gets(t, s, k.key(i))
	}
	m.looks(t, s)
	for n, i := range out {
		m.remove(t, s, k.key(i))
		b -= len(k.key(i)) + len(k.value(i)) + 8
		bounded(len(out) - n - 1)
		m.gets(t, s, k.key(i))
		if n == len(out)/2 || n == len(out)-5 {
			m.looks(t, s)
		}
	}
	sizes(t, s, 0, 0, 0)
	if s.Root() != 0 || s.Left() != free || b != 0 {
		t.Errorf("the root is %d, and %d of %d pages are left", s.Root(), s.Left(), free)
	}
}

// The most pages on which pairs can be brought to lie: of what is done, all is taken back that takes a page away.
func TestFewestPairsOnPages(t *testing.T) {
	for _, k := range append(kinds(), kind{900, "of some length", func(i int) string { return long(fmt.Sprintf("%06d", i), 100) }, func(i int) string { return long("v", 30+i%7*30) }}) {
		t.Run(k.name, func(t *testing.T) {
			t.Parallel()
			s, m := made(t, 1200), pairs{}
			random := rand.New(rand.NewSource(64))
			for _, i := range random.Perm(k.count) {
				m.put(t, s, k.key(i), k.value(i))
			}
			shrink(t, s, m, random)
			m.looks(t, s)
		})
	}
}

// shrink deletes pairs, and takes bytes from their values, until not much can go but with a page.
func shrink(t *testing.T, s *store.Store, m pairs, random *rand.Rand) {
	t.Helper()
	for kept := 0; kept < 100 && len(m) > 0; {
		k := m.key(random.Intn(len(m)))
		v, left, mark := m[k], s.Left(), s.Mark()
		if random.Intn(2) == 0 {
			m.remove(t, s, k)
		} else {
			m.put(t, s, k, v[:random.Intn(len(v)+1)])
		}
		if n := 1200 - 2 - s.Left(); n > m.bound() {
			t.Fatalf("%d pairs on %d pages, where %d are the most", len(m), n, m.bound())
		}
		if kept++; s.Left() == left && m[k] != v {
			kept = 0
		}
		if s.Left() > left {
			answers(t, "Back", s.Back(mark), api.OK)
			m[k] = v
		}
	}
}

// Pairs that are put and deleted again and again, where there are many and where there are few.
func TestComingAndGoing(t *testing.T) {
	random := rand.New(rand.NewSource(65))
	for _, few := range []int{3, 12, 60, 400} {
		s, m := made(t, 1200), pairs{}
		for i := range 3000 {
			k := long(strconv.Itoa(random.Intn(few*2)), 1+random.Intn(2)*255)
			if len(m) < few && random.Intn(8) > 0 || random.Intn(3) == 0 {
				m.put(t, s, k, long(strconv.Itoa(i), random.Intn(3)*512))
			} else {
				m.remove(t, s, k)
			}
			if n := 1200 - 2 - s.Left(); n > m.bound() {
				t.Fatalf("%d pairs on %d pages, where %d are the most", len(m), n, m.bound())
			}
			if i%500 == 0 {
				m.looks(t, s)
			}
		}
		m.looks(t, s)
	}
}

// A page that changes is taken anew, and the old one given back; the others stay. So what the change began from is there, whole, until it is committed.
func TestNoPageIsWrittenTwice(t *testing.T) {
	d := newDisk(t, 300)
	s, m := open(t, d), pairs{}
	for i := range 300 {
		m.put(t, s, "k"+strconv.Itoa(i*7%300), long("v", 300))
	}
	answers(t, "Commit", s.Commit(), api.OK)
	random := rand.New(rand.NewSource(66))
	act := func(i int) {
		k := "k" + strconv.Itoa(random.Intn(400))
		if random.Intn(2) == 0 {
			m.put(t, s, k, long(strconv.Itoa(i), random.Intn(1025)))
		} else {
			m.remove(t, s, k)
		}
	}
	for i := range 120 {
		root, ahead, was := s.Root(), pagesOf(s), len(m)
		_, deep := m.sized(t, s)
		act(i)
		fresh := 0
		for p, b := range pagesOf(s) {
			switch old, ok := ahead[p]; {
			case !ok:
				fresh++
			case old != b:
				t.Fatalf("page %d is taken, and holds what it did not", p)
			}
		}
		if fresh == 0 && s.Root() != root || fresh > 0 && s.Root() == root || fresh == 0 && len(m) != was || fresh > 2*deep+1 {
			t.Fatalf("%d pages are taken, where %d lay one below the other, the root was %d, and is %d", fresh, deep, root, s.Root())
		}
		if i%20 == 19 {
			m.looks(t, s)
			old := pairs{}
			l, _ := tree.Range(open(t, d), nil, nil)
			for _, p := range l {
				old[string(p.Key)] = string(p.Value)
			}
			old.looks(t, open(t, d))
			answers(t, "Commit", s.Commit(), api.OK)
			m.looks(t, open(t, d))
		}
	}
}
