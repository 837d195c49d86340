package store_test

import (
	"maps"
	"math/rand"
	"strconv"
	"testing"

	"quitrent/api"
	"quitrent/disk"
	"quitrent/store"
)

// P5.6: what follows.

// seen is all that is to be seen of a store behind Open.
type seen struct {
	root, left int
	pages      held
}

func (a seen) same(b seen) bool {
	return a.root == b.root && a.left == b.left && maps.Equal(a.pages, b.pages)
}

// see looks at all of s, and fails where a page that is taken is not whole.
func see(t testing.TB, s *store.Store, size int) seen {
	t.Helper()
	v := seen{s.Root(), s.Left(), held{}}
	for p := range size {
		switch b, e := s.Read(p); e {
		case api.OK:
			v.pages[p] = string(b)
		case api.ErrArg: // not taken
		default:
			t.Fatalf("Read(%d): %v", p, e)
		}
	}
	return v
}

const powerSize = 10

// changes are some, one behind the other: of each how many pages it writes, and what it does.
func changes(t testing.TB) []struct {
	pages int
	act   func(s *store.Store)
} {
	long := string(pattern(3, 3500))
	return []struct {
		pages int
		act   func(s *store.Store)
	}{
		{2, func(s *store.Store) { takes(t, s, "a", 2); takes(t, s, long, 3); roots(t, s, 3) }},
		{1, func(s *store.Store) { takes(t, s, long+"b", 4); roots(t, s, 4); gives(t, s, 3) }},
		{3, func(s *store.Store) {
			takes(t, s, "c"+long, 3)
			takes(t, s, "d", 5)
			takes(t, s, "e", 6)
			gives(t, s, 5, 2)
			takes(t, s, long+"f", 5)
			roots(t, s, 5)
		}},
		{0, func(s *store.Store) { gives(t, s, 4); roots(t, s, 6) }},
		{2, func(s *store.Store) { takes(t, s, "g", 2); takes(t, s, "h"+long, 4); roots(t, s, 0); gives(t, s, 6) }},
		{0, func(s *store.Store) { roots(t, s, 2) }},
		{1, func(s *store.Store) { gives(t, s, 3, 4, 5); takes(t, s, "i", 6); roots(t, s, 6); gives(t, s, 2) }},
	}
}

// upTo is a disk on which the first n changes are committed, the store on it, and what is to be seen of it.
func upTo(t testing.TB, n int) (*disk.Disk, *store.Store, seen) {
	t.Helper()
	d, s := made(t, powerSize)
	for _, c := range changes(t)[:n] {
		c.act(s)
		commits(t, s)
	}
	return d, s, see(t, s, powerSize)
}

// meets fails where the power, going at call fuse of the Commit that is under way and coming with these fates, leaves another store than was, or, if the head's frame lasts whole, than is. It answers the one that is left.
func meets(t *testing.T, d *disk.Disk, s *store.Store, pages, fuse int, fates []int, was, is seen) *store.Store {
	t.Helper()
	d.Fuse(fuse)
	if e := s.Commit(); e != api.ErrDead || !s.Dead() {
		t.Fatalf("Commit, the power going at call %d: %v", fuse, e)
	}
	d.Restart(fates)
	s = open(t, d)
	want := was
	if fuse > pages && len(fates) > 0 && fates[0]&255 == 255 {
		want = is
	}
	if got := see(t, s, powerSize); !got.same(want) {
		t.Fatalf("%d pages, the power going at call %d, fates %v: %v, not %v", pages, fuse, fates, got, want)
	}
	return s
}

// drawnFates are any, of as many pages as may wait.
func drawnFates(random *rand.Rand) []int {
	fates := make([]int, random.Intn(5))
	for i := range fates {
		switch random.Intn(3) {
		case 0:
			fates[i] = 255
		case 1:
			fates[i] = random.Intn(256)
		default:
			fates[i] = random.Intn(1<<20) - 1<<19
		}
	}
	return fates
}

// At each call of each change's Commit the power goes; of the head, all fates.
func TestPowerAtEveryCall(t *testing.T) {
	random := rand.New(rand.NewSource(56))
	for n, c := range changes(t) {
		_, _, is := upTo(t, n+1)
		for fuse := range c.pages + 3 {
			fates := [][]int{nil, {255}, {255, 255}, {255, 255, 255, 255}, {0, 255}, {254, 127, 1}, {-1, -1, -1}, {-256}, drawnFates(random)}
			if fuse > c.pages {
				for f := range 256 {
					fates = append(fates, []int{f})
				}
			}
			for _, f := range fates {
				d, s, was := upTo(t, n)
				c.act(s)
				s = meets(t, d, s, c.pages, fuse, f, was, is)
				if f := see(t, s, powerSize); f.same(was) {
					c.act(s)
				}
				commits(t, s)
				if got := see(t, open(t, d), powerSize); !got.same(is) {
					t.Fatalf("the change %d, made again: %v, not %v", n, got, is)
				}
			}
			if t.Failed() {
				return
			}
		}
	}
}

// The power goes again and again while one change is committed, until it is.
func TestPowerAgainAndAgain(t *testing.T) {
	random := rand.New(rand.NewSource(57))
	for range 40 {
		d, s, was := upTo(t, 0)
		for n, c := range changes(t) {
			_, _, is := upTo(t, n+1)
			for !see(t, s, powerSize).same(is) {
				c.act(s)
				if random.Intn(4) == 0 {
					commits(t, s)
					s = open(t, d)
					continue
				}
				s = meets(t, d, s, c.pages, random.Intn(c.pages+3), drawnFates(random), was, is)
			}
			was = is
		}
	}
}

// Any changes, and the power going at any call: what is left is what was committed, perhaps with what was under way, and nothing else; a change that was never committed is never there.
func TestPowerOverAnyChanges(t *testing.T) {
	random := rand.New(rand.NewSource(58))
	for range 30 {
		size := 4 + random.Intn(12)
		d, s := made(t, size)
		was := see(t, s, size)
		for i := range 40 {
			scribble(s, random, size, strconv.Itoa(i))
			is := see(t, s, size)
			switch random.Intn(8) {
			case 0: // left uncommitted
				if random.Intn(2) == 0 {
					d.Kill()
					d.Restart(drawnFates(random))
				}
				s = open(t, d)
			case 1, 2:
				commits(t, s)
				was = see(t, s, size)
			default:
				d.Fuse(random.Intn(8))
				e := s.Commit()
				d.Restart(drawnFates(random))
				s = open(t, d)
				// What was given is free only behind the commit: so how many pages are left is told by those that are taken.
				is.left = size - 2 - len(is.pages)
				if got := see(t, s, size); got.same(is) {
					was = is
				} else if e == api.OK {
					t.Fatalf("committed: %v, not %v", got, is)
				}
			}
			if got := see(t, open(t, d), size); !got.same(was) {
				t.Fatalf("%v, not %v", got, was)
			}
		}
	}
}

// scribble makes any change.
func scribble(s *store.Store, random *rand.Rand, size int, name string) {
	for i := range random.Intn(8) {
		switch p := 2 + random.Intn(size-2); random.Intn(5) {
		case 0, 1:
			s.Take(append([]byte(name+" "+strconv.Itoa(i)+" "), make([]byte, random.Intn(3)*1500)...))
		case 2, 3:
			s.Give(p)
		default:
			s.SetRoot(p)
		}
	}
}
