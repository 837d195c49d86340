package tree

import (
	"slices"

	"quitrent/api"
	"quitrent/store"
)

// edit is what a change of a tree comes to, ahead of its being done: only then is it known how many pages it wants, and whether there are so many.
type edit struct {
	s    *store.Store
	gone []int // pages in whose places others come
}

// change lets the leaf have these items in the place of old ones, from place i on.
func (w way) change(s *store.Store, i, old int, items ...item) {
	c := &edit{s: s}
	n := c.drop(w.leaf())
	n.items = replaced(n.items, i, old, items)
	for _, above := range slices.Backward(w[:len(w)-1]) {
		n = c.hang(c.drop(above.node), above.at, n)
	}
	root, spare := crown(n), 0
	// Of a tree that becomes deeper each change wants a page more than this one gives back: if none is left over for it, nothing can ever be deleted again.
	if root != nil && root.level > w[0].level {
		spare = 1
	}
	c.write(root, spare)
}

// drop is n, whose page is to be given back.
func (c *edit) drop(n node) node {
	if n.page != 0 {
		c.gone = append(c.gone, n.page)
	}
	return n
}

// hang is the node above, behind the one below its item at has become n.
func (c *edit) hang(above node, at int, n node) node {
	old := 1
	if n.size() < least {
		old = 2
		if at+1 < len(above.items) {
			n.items = slices.Concat(n.items, c.drop(below(c.s, above, at+1)).items)
		} else {
			at--
			n.items = slices.Concat(c.drop(below(c.s, above, at)).items, n.items)
		}
	}
	above.items = replaced(above.items, at, old, places(n, above.items[at].key))
	return above
}

// places are the items of the one or two new nodes that n becomes, the first of them from that key on.
func places(n node, key []byte) []item {
	if n.size() <= api.Room {
		return []item{place(n.level, n.items, key)}
	}
	i := middle(n.items)
	return []item{place(n.level, n.items[:i:i], key), place(n.level, n.items[i:], n.items[i].key)}
}

// place is the item of a new node.
func place(level int, items []item, key []byte) item {
	return item{key, make([]byte, numberSize), &node{level: level, items: items}}
}

// middle is where l, of two items or more, is cut into parts whose sizes are as near as may be: so neither is less than half of all but for half an item.
func middle(l []item) int {
	i, left := 0, 0
	for all := size(l); left+l[i].size() < all-left; i++ {
		left += l[i].size()
	}
	return i
}

// crown is what the root holds when the node there has become n: none, if nothing is left.
func crown(n node) *node {
	if len(n.items) == 0 {
		return nil
	}
	root := &node{level: n.level + 1, items: places(n, nil)}
	// The only page below another one may as well be the root; where one alone is left, it is a new one.
	for root.level > 0 && len(root.items) == 1 {
		root = root.items[0].made
	}
	return root
}

// write does the change, of which n is the new root: all of it, or, if there are too few pages for it and so many spare ones, nothing.
func (c *edit) write(n *node, spare int) {
	if wanted(n)+spare > c.s.Left() {
		throw(api.ErrFull)
	}
	must(c.s.SetRoot(c.take(n)))
	// Not ahead of the new ones: a page that was taken in the change would be free at once, and be written again.
	for _, p := range c.gone {
		must(c.s.Give(p))
	}
}

// wanted is how many pages are to be taken for n, and for what is new below it.
func wanted(n *node) int {
	if n == nil {
		return 0
	}
	sum := 1
	for _, it := range n.items {
		sum += wanted(it.made)
	}
	return sum
}

// take takes these pages, and answers n's.
func (c *edit) take(n *node) int {
	if n == nil {
		return 0
	}
	for i, it := range n.items {
		if it.made != nil {
			n.items[i].rest = digits(c.take(it.made))
		}
	}
	p, e := c.s.Take(n.told())
	must(e)
	return p
}

// replaced is l with those items in the place of old ones, from place i on.
func replaced(l []item, i, old int, items []item) []item {
	return slices.Concat(l[:i:i], items, l[i+old:])
}
