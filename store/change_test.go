package store_test

import (
	"bytes"
	"math"
	"slices"
	"strconv"
	"testing"

	"quitrent/api"
	"quitrent/disk"
	"quitrent/store"
)

// P5.4: Mark, Back.

func TestMarksAreNumbered(t *testing.T) {
	_, s := made(t, 6)
	for m := 1; m < 5; m++ {
		marks(t, s, m)
	}
	takes(t, s, "a", 2)
	marks(t, s, 5)
	back(t, s, 3, api.OK)
	marks(t, s, 4) // behind 1, 2 and 3, which are still there
	back(t, s, 3, api.OK)
	back(t, s, 3, api.OK) // again
	back(t, s, 1, api.OK)
	marks(t, s, 2)
}

func TestBackToNoMark(t *testing.T) {
	_, s := made(t, 6)
	wrong := []int{math.MinInt, -1 << 32, -2, -1, 0, 1 << 32, math.MaxInt}
	for n := range 4 { // so many marks there are
		for _, m := range append(wrong, n+1, n+2, n+7) {
			back(t, s, m, api.ErrArg)
		}
		marks(t, s, n+1)
		takes(t, s, strconv.Itoa(n), 2+n)
	}
	looks(t, s, 6, 0, 0, held{2: "0", 3: "1", 4: "2", 5: "3"})
	back(t, s, 2, api.OK)
	looks(t, s, 6, 0, 0, held{2: "0"})
	for _, m := range append(wrong, 3, 4, 5) {
		back(t, s, m, api.ErrArg) // 3 and 4 were taken away
	}
	looks(t, s, 6, 0, 0, held{2: "0"})
	takes(t, s, "x", 3)
	marks(t, s, 3) // another one, of the number of one that is gone
	takes(t, s, "y", 4)
	back(t, s, 3, api.OK)
	looks(t, s, 6, 0, 0, held{2: "0", 3: "x"})
}

// Back, over all that a change may have: pages taken, given, of both kinds, and roots.
func TestBackToEachMark(t *testing.T) {
	d, s := made(t, 12)
	for p := 2; p < 6; p++ {
		takes(t, s, "old "+strconv.Itoa(p), p)
	}
	roots(t, s, 2)
	commits(t, s)

	was := []held{{2: "old 2", 3: "old 3", 4: "old 4", 5: "old 5"}}
	root, given := []int{2}, []int{0}
	at := func(g, r int, pages held) {
		root, given, was = append(root, r), append(given, g), append(was, pages)
	}
	steps := []func(){
		func() { takes(t, s, "a", 6) },
		func() { gives(t, s, 3) },      // one that was taken ahead
		func() { gives(t, s, 6) },      // one that was taken in the change, ahead of marks
		func() { takes(t, s, "b", 6) }, // again, for others
		func() { roots(t, s, 6) },
		func() { gives(t, s, 2) }, // the root that was
		func() { takes(t, s, "", 7) },
		func() { roots(t, s, 0) },
		func() { gives(t, s, 7); gives(t, s, 6); takes(t, s, "c", 6); takes(t, s, "d", 7) },
	}
	at(0, 2, held{2: "old 2", 3: "old 3", 4: "old 4", 5: "old 5", 6: "a"})
	at(1, 2, held{2: "old 2", 4: "old 4", 5: "old 5", 6: "a"})
	at(1, 2, held{2: "old 2", 4: "old 4", 5: "old 5"})
	at(1, 2, held{2: "old 2", 4: "old 4", 5: "old 5", 6: "b"})
	at(1, 6, held{2: "old 2", 4: "old 4", 5: "old 5", 6: "b"})
	at(2, 6, held{4: "old 4", 5: "old 5", 6: "b"})
	at(2, 6, held{4: "old 4", 5: "old 5", 6: "b", 7: ""})
	at(2, 0, held{4: "old 4", 5: "old 5", 6: "b", 7: ""})
	at(2, 0, held{4: "old 4", 5: "old 5", 6: "c", 7: "d"})

	for m := range was {
		for from := m; from < len(was); from++ {
			// The change, up to there, with a mark ahead of each step; then back from there to m.
			s.Abort()
			for i := range from {
				marks(t, s, i+1)
				steps[i]()
			}
			marks(t, s, from+1)
			looks(t, s, 12, given[from], root[from], was[from])
			back(t, s, m+1, api.OK)
			looks(t, s, 12, given[m], root[m], was[m])
			for i := m; i < len(steps); i++ { // and forth again
				steps[i]()
			}
			last := len(was) - 1
			looks(t, s, 12, given[last], root[last], was[last])
			back(t, s, m+1, api.OK)
			looks(t, s, 12, given[m], root[m], was[m])
		}
	}
	back(t, s, 4, api.OK)
	takes(t, s, "e", 6)
	commits(t, s)
	pageOf(t, d, 6, 2, "e")
	looks(t, open(t, d), 12, 0, 2, held{2: "old 2", 4: "old 4", 5: "old 5", 6: "e"})
}

// Back to where nothing was done is a change of nothing; to where something was, not.
func TestCommitBehindBack(t *testing.T) {
	d, s := made(t, 8)
	takes(t, s, "a", 2)
	takes(t, s, "b", 3)
	roots(t, s, 2)
	commits(t, s)
	headOf(t, d, 1, 1, says(8, 2, 2, 3))
	for _, act := range []func(){
		func() { takes(t, s, "c", 4) },
		func() { gives(t, s, 3) },
		func() { roots(t, s, 3) },
		func() { roots(t, s, 2) },
		func() { takes(t, s, "c", 4); gives(t, s, 4) },
	} {
		writesNothing(t, "Commit behind Back", d, func() {
			marks(t, s, 1)
			act()
			marks(t, s, 2)
			back(t, s, 1, api.OK)
			looks(t, s, 8, 0, 2, held{2: "a", 3: "b"})
			commits(t, s)
		})
	}
	takes(t, s, "c", 4)
	marks(t, s, 1)
	gives(t, s, 4, 3)
	back(t, s, 1, api.OK)
	commits(t, s)
	pageOf(t, d, 4, 2, "c")
	headOf(t, d, 0, 2, says(8, 2, 2, 3, 4))
}

func TestMarksEndWithTheChange(t *testing.T) {
	for name, end := range map[string]func(s *store.Store){
		"Commit":            func(s *store.Store) { commits(t, s) },
		"Abort":             func(s *store.Store) { s.Abort() },
		"Commit of nothing": func(s *store.Store) { back(t, s, 1, api.OK); commits(t, s) },
	} {
		_, s := made(t, 6)
		marks(t, s, 1)
		takes(t, s, "a", 2)
		marks(t, s, 2)
		end(s)
		left := s.Left()
		for _, m := range []int{0, 1, 2, -1} {
			back(t, s, m, api.ErrArg)
		}
		if s.Left() != left {
			t.Errorf("Back behind %s: %d pages are left, not %d", name, s.Left(), left)
		}
		marks(t, s, 1)
	}
}

// Many marks, and many acts among them, are gone back over one by one.
func TestManyMarks(t *testing.T) {
	_, s := made(t, 40)
	for m := range 30 {
		marks(t, s, m+1)
		takes(t, s, strconv.Itoa(m), 2+m)
		roots(t, s, 2+m)
	}
	for m := 29; m >= 0; m-- {
		back(t, s, m+1, api.OK)
		want := held{}
		for i := range m {
			want[2+i] = strconv.Itoa(i)
		}
		root := 0
		if m > 0 {
			root = 1 + m
		}
		looks(t, s, 40, 0, root, want)
	}
}

// P5.5: Commit, Abort, Dead.

func TestCommitOfNothing(t *testing.T) {
	d, s := made(t, 6)
	writesNothing(t, "Commit in a new store", d, func() { commits(t, s); commits(t, s) })
	takes(t, s, "a", 2)
	commits(t, s)
	writesNothing(t, "Commit behind a Commit", d, func() { commits(t, s) })
	s = open(t, d)
	writesNothing(t, "Commit behind Open", d, func() { commits(t, s) })
	takes(t, s, "b", 3)
	gives(t, s, 2)
	roots(t, s, 3)
	s.Abort()
	writesNothing(t, "Commit behind Abort", d, func() { commits(t, s) })
	writesNothing(t, "Commit behind what is asked", d, func() {
		s.Read(2)
		s.Root()
		s.Left()
		s.Dead()
		marks(t, s, 1)
		commits(t, s)
	})
	looks(t, open(t, d), 6, 0, 0, held{2: "a"})
}

// Whatever was taken, given, or made the root is a change, also where all is as it was ahead of it.
func TestCommitOfWhatComesToNothing(t *testing.T) {
	d, s := made(t, 6)
	takes(t, s, "a", 2)
	roots(t, s, 2)
	commits(t, s)
	stamp := uint64(1)
	for _, act := range []func(){
		func() { takes(t, s, "b", 3); gives(t, s, 3) },
		func() { roots(t, s, 2) },
		func() { roots(t, s, 0); roots(t, s, 2) },
	} {
		act()
		ahead := whole(t, d)
		commits(t, s)
		stamp++
		headOf(t, d, int(stamp%2), stamp, says(6, 2, 2))
		for at, b := range whole(t, d) {
			if at != int(stamp%2) && !bytes.Equal(b, ahead[at]) {
				t.Errorf("page %d is written", at)
			}
		}
		looks(t, open(t, d), 6, 0, 2, held{2: "a"})
	}
	_, s = made(t, 4)
	roots(t, s, 0)
	commits(t, s)
}

// Which frames a commit writes, commit by commit: the heads in turn, page 1 first.
func TestCommitStampsAndHeads(t *testing.T) {
	d, s := made(t, 11)
	takes(t, s, "a", 2)
	takes(t, s, "b", 3)
	takes(t, s, "c", 4)
	gives(t, s, 3)
	roots(t, s, 4)
	commits(t, s)
	pageOf(t, d, 2, 1, "a")
	pageOf(t, d, 4, 1, "c")
	headOf(t, d, 1, 1, says(11, 4, 2, 4))
	for _, at := range []int{0, 3, 5, 6, 7, 8, 9, 10} {
		if !bytes.Equal(on(t, d, at), make([]byte, api.Page)) {
			t.Errorf("page %d is written", at)
		}
	}

	takes(t, s, "d", 3)
	gives(t, s, 2)
	commits(t, s)
	pageOf(t, d, 2, 1, "a") // free, and as it was
	pageOf(t, d, 3, 2, "d")
	pageOf(t, d, 4, 1, "c")
	headOf(t, d, 0, 2, says(11, 4, 3, 4))
	headOf(t, d, 1, 1, says(11, 4, 2, 4))

	s = open(t, d)
	for p := 5; p < 12; p++ {
		takes(t, s, "e", []int{2, 5, 6, 7, 8, 9, 10}[p-5])
	}
	roots(t, s, 10)
	commits(t, s)
	headOf(t, d, 0, 2, says(11, 4, 3, 4))
	headOf(t, d, 1, 3, says(11, 10, 2, 3, 4, 5, 6, 7, 8, 9, 10))
	pageOf(t, d, 10, 3, "e")
	roots(t, s, 0)
	commits(t, s)
	headOf(t, d, 0, 4, says(11, 0, 2, 3, 4, 5, 6, 7, 8, 9, 10))
	if got := d.Waits(); len(got) != 0 {
		t.Errorf("behind a Commit %v wait", got)
	}
}

// The disk's calls in a commit, one by one, by what waits as the power goes at each.
func TestCommitCallByCall(t *testing.T) {
	prepared := func() (*disk.Disk, *store.Store) {
		d, s := made(t, 12)
		for p := 2; p < 11; p++ {
			takes(t, s, "a", p)
		}
		gives(t, s, 3, 7, 9, 2)
		commits(t, s)
		gives(t, s, 4)
		for _, p := range []int{2, 3, 7, 9, 11} {
			takes(t, s, "b", p)
		}
		gives(t, s, 3, 11, 2)
		takes(t, s, "c", 2)
		takes(t, s, "d", 3)
		return d, s
	}
	for n, want := range [][]int{{2}, {2, 3}, {2, 3, 7}, {2, 3, 7, 9}, {2, 3, 7, 9}, {0}, {0}} {
		d, s := prepared()
		d.Fuse(n)
		if e := s.Commit(); e != api.ErrDead || !d.Dead() {
			t.Errorf("Commit, and the power goes at call %d: %v", n, e)
		}
		if got := d.Waits(); !slices.Equal(got, want) {
			t.Errorf("the power goes at call %d: %v wait, not %v", n, got, want)
		}
	}
	d, s := prepared()
	d.Fuse(7)
	answers(t, "Commit", s.Commit(), api.OK)
	if d.Dead() {
		t.Error("a Commit of 4 pages has more than 7 calls")
	}
	if d.Flush(); !d.Dead() {
		t.Error("a Commit of 4 pages has fewer than 7 calls")
	}
}

// A change of no pages is three calls all the same.
func TestCommitOfNoPages(t *testing.T) {
	for n, want := range [][]int{nil, {1}, {1}} {
		d, s := made(t, 4)
		roots(t, s, 0)
		d.Fuse(n)
		answers(t, "Commit", s.Commit(), api.ErrDead)
		if got := d.Waits(); !slices.Equal(got, want) {
			t.Errorf("the power goes at call %d: %v wait, not %v", n, got, want)
		}
	}
	d, s := made(t, 4)
	roots(t, s, 0)
	d.Fuse(3)
	commits(t, s)
	if d.Dead() {
		t.Error("more than three calls")
	}
}

func TestAbort(t *testing.T) {
	d, s := made(t, 8)
	writesNothing(t, "Abort of nothing", d, func() { s.Abort(); s.Abort() })
	takes(t, s, "a", 2)
	roots(t, s, 2)
	s.Abort()
	looks(t, s, 8, 0, 0, nil) // of a change of a new store
	takes(t, s, "b", 2)
	takes(t, s, "c", 3)
	roots(t, s, 3)
	commits(t, s)
	writesNothing(t, "Abort", d, func() {
		gives(t, s, 2)
		takes(t, s, "d", 4)
		roots(t, s, 4)
		gives(t, s, 3)
		looks(t, s, 8, 2, 4, held{4: "d"})
		s.Abort()
		looks(t, s, 8, 0, 3, held{2: "b", 3: "c"})
		s.Abort()
		looks(t, s, 8, 0, 3, held{2: "b", 3: "c"})
	})
	takes(t, s, "e", 4)
	commits(t, s)
	looks(t, open(t, d), 8, 0, 3, held{2: "b", 3: "c", 4: "e"})
}

// A store whose Commit met a dead disk is dead, also when the power is there again.
func TestDeadForGood(t *testing.T) {
	for n := range 4 {
		d, s := made(t, 5)
		takes(t, s, "a", 2)
		roots(t, s, 2)
		d.Fuse(n)
		answers(t, "Commit", s.Commit(), api.ErrDead)
		for range 2 {
			if !s.Dead() {
				t.Errorf("the power went at call %d, and it is not dead", n)
			}
			refusals(t, "dead", s, api.ErrDead)
			answers(t, "Commit of one that is dead", s.Commit(), api.ErrDead)
			s.Abort()
			d.Restart([]int{255})
		}
		writesNothing(t, "calls of one that is dead", d, func() {
			refusals(t, "dead", s, api.ErrDead)
			answers(t, "Commit of one that is dead", s.Commit(), api.ErrDead)
			s.Abort()
		})
		if other := open(t, d); other.Dead() {
			t.Error("one that is opened anew is dead")
		}
	}
	// A Commit that finds the disk dead, of a change or of none, met that, too.
	for _, act := range []func(d *disk.Disk, take func()){
		func(d *disk.Disk, take func()) { take(); d.Kill() },
		func(d *disk.Disk, take func()) { d.Kill() },
	} {
		d, s := made(t, 5)
		act(d, func() { takes(t, s, "a", 2) })
		answers(t, "Commit", s.Commit(), api.ErrDead)
		d.Restart(nil)
		if !s.Dead() {
			t.Error("its Commit met a dead disk, and it is not dead")
		}
		refusals(t, "dead", s, api.ErrDead)
	}
}
