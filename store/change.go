package store

import (
	"math/bits"
	"slices"
)

// change is what the pages are by all that was done since it began.
type change struct {
	state
	kept    state          // what was ahead of it, and is still, until it is committed
	fresh   map[int][]byte // what the pages hold that were taken in it
	changed bool           // whether anything was done
	marks   []mark
	undo    []func() // how to take back what was done since the first mark; ahead of it there is nothing to go back to
}

// mark is what a change was.
type mark struct {
	done    int // how many of undo there were
	changed bool
}

// begin lets a change begin, of nothing, ahead of which t was.
func (c *change) begin(t state) {
	*c = change{state: t, kept: t, fresh: map[int][]byte{}}
}

// busy is how many pages are not free.
func (c *change) busy() int {
	var n int
	for i, b := range c.taken {
		n += bits.OnesCount8(b | c.kept.taken[i])
	}
	return n
}

// spare is the least page, of a disk of size ones, that is free, or 0. One that was taken ahead of the change is not, given or not: the head in force leans on it.
func (c *change) spare(size int) int {
	for p := heads; p < size; p++ {
		if !c.has(p) && !c.kept.has(p) {
			return p
		}
	}
	return 0
}

// take makes p, which is free, a page that holds b.
func (c *change) take(p int, b []byte) {
	c.hold(p, b)
	c.did(func() { c.drop(p) })
}

// give makes p a page that is not taken.
func (c *change) give(p int) {
	b, fresh := c.fresh[p]
	c.drop(p)
	c.did(func() {
		if fresh {
			c.hold(p, b)
		} else {
			c.turn(p)
		}
	})
}

// setRoot makes p the root.
func (c *change) setRoot(p int) {
	was := c.root
	c.root = p
	c.did(func() { c.root = was })
}

// hold lets p be taken in the change.
func (c *change) hold(p int, b []byte) {
	c.turn(p)
	c.fresh[p] = b
}

// drop lets p be taken no more.
func (c *change) drop(p int) {
	c.turn(p)
	delete(c.fresh, p)
}

// did keeps that something was done, and how it is taken back.
func (c *change) did(undo func()) {
	c.changed = true
	if len(c.marks) > 0 {
		c.undo = append(c.undo, undo)
	}
}

// mark makes a mark, and answers how many there are, with it: so it is the first one that is 1.
func (c *change) mark() int {
	c.marks = append(c.marks, mark{len(c.undo), c.changed})
	return len(c.marks)
}

// back takes back all that was done since mark m, the last of it first.
func (c *change) back(m int) {
	was := c.marks[m-1]
	later := c.undo[was.done:]
	for _, undo := range slices.Backward(later) {
		undo()
	}
	clear(later) // they hold on to the bytes of pages
	c.undo, c.marks, c.changed = c.undo[:was.done], c.marks[:m], was.changed
}
