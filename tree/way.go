package tree

import (
	"bytes"

	"quitrent/api"
	"quitrent/store"
)

// span is the keys that are not below from, and below to; of no bytes that is no end.
type span struct{ from, to []byte }

func (a span) has(key []byte) bool {
	return bytes.Compare(a.from, key) <= 0 && a.ends(key)
}

// ends tells whether key is below the end.
func (a span) ends(key []byte) bool {
	return len(a.to) == 0 || bytes.Compare(key, a.to) < 0
}

// meets tells whether there may be keys that are in both.
func (a span) meets(b span) bool { return a.ends(b.from) && b.ends(a.from) }

// read is the node on page p, all of whose keys are in keys.
func read(s *store.Store, p int, keys span) node {
	b, e := s.Read(p)
	if e == api.ErrArg { // a page that is not taken is none of a tree
		e = api.ErrBroken
	}
	must(e)
	n := heard(b)
	n.page, n.keys = p, keys
	if !n.right() {
		throw(api.ErrBroken)
	}
	return n
}

// top is the node on the root, or, of a tree without pairs, a leaf on no page.
func top(s *store.Store) node {
	if p := s.Root(); p != 0 {
		return read(s, p, span{})
	}
	return node{}
}

// below is the node on the page of item i of n, which is no leaf.
func below(s *store.Store, n node, i int) node {
	m := read(s, number(n.items[i].rest), n.span(i))
	// So every way ends, also where pages lead back to one above them.
	if m.level != n.level-1 {
		throw(api.ErrBroken)
	}
	return m
}

// walk hands n to do, and then all nodes below it that may have keys in that span, in their order.
func walk(s *store.Store, n node, keys span, do func(n node)) {
	do(n)
	if n.level == 0 {
		return
	}
	for i := range n.items {
		if n.span(i).meets(keys) {
			walk(s, below(s, n, i), keys, do)
		}
	}
}

// way is nodes from the root on, each on the page of an item of the one ahead of it, down to a leaf.
type way []step

// step is a node, and which of its items is gone on by.
type step struct {
	node
	at int
}

// down is the way to where key belongs.
func down(s *store.Store, key []byte) way {
	n := top(s)
	var w way
	for n.level > 0 {
		at := n.toward(key)
		w = append(w, step{n, at})
		n = below(s, n, at)
	}
	return append(w, step{node: n})
}

// leaf is the last node.
func (w way) leaf() node { return w[len(w)-1].node }
