package tree_test

import (
	"fmt"
	"maps"
	"testing"

	"quitrent/api"
)

// P6.5, with the store's own calls among the tree's: what is committed, taken back, or gone to, is what it was.
func TestStoreCallsAmongTheTrees(t *testing.T) {
	for _, n := range []int{1, 5, 40, 150} {
		d := newDisk(t, 250)
		s, m := open(t, d), pairs{}
		fill := func(from, to int) {
			for i := from; i < to; i++ {
				m.put(t, s, fmt.Sprintf("k%03d", i*7%1000), long(fmt.Sprint(i), 400))
			}
		}
		fill(0, n)
		s.Abort() // of a new store
		pairs{}.looks(t, s)
		m = pairs{}
		fill(0, n)
		answers(t, "Commit", s.Commit(), api.OK)
		was := maps.Clone(m)

		var marks []pairs
		for i := range 4 {
			if k := s.Mark(); k != i+1 {
				t.Errorf("Mark: %d, not %d", k, i+1) // a Put makes none
			}
			marks = append(marks, maps.Clone(m))
			fill(n+i*10, n+i*10+10)
			m.remove(t, s, fmt.Sprintf("k%03d", i*7))
		}
		was.looks(t, open(t, d)) // of the change nothing is on the disk
		for i := 3; i >= 0; i-- {
			answers(t, "Back", s.Back(i+1), api.OK)
			m = maps.Clone(marks[i])
			m.looks(t, s)
			fill(900, 910)
		}
		s.Abort()
		m = maps.Clone(was)
		m.looks(t, s)

		for len(m) > 0 {
			m.remove(t, s, m.key(0))
		}
		m.looks(t, s)
		s, m = open(t, d), was // what was not committed is gone
		m.looks(t, s)
		for len(m) > 0 {
			m.remove(t, s, m.key(len(m)-1))
		}
		m.looks(t, s)
		answers(t, "Commit", s.Commit(), api.OK)
		m.looks(t, open(t, d))
		if s.Left() != 248 {
			t.Errorf("%d pages are left", s.Left())
		}
	}
}
