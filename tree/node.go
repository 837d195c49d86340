package tree

import (
	"bytes"
	"slices"

	"quitrent/api"
)

// How many bytes tell a node's level, the length of a part of an item, a page's number.
const (
	levelSize  = 1
	lengthSize = 2
	numberSize = 2
)

// least is how many bytes a node has at least, but for the root: so few that, where two are put together, and cut in two again if they are too many for a page, none has fewer.
const least = api.Room / 3

// item is a pair, or, in a node that is not a leaf, a page and the key that those of its pairs are not below.
type item struct {
	key  []byte
	rest []byte // the value, or the page's number
	made *node  // what that page will hold, if it was not taken yet
}

// size is how many bytes of a page it takes.
func (it item) size() int { return 2*lengthSize + len(it.key) + len(it.rest) }

// may tells whether it may be in a node of that level.
func (it item) may(level int) bool {
	if level > 0 {
		return len(it.key) <= api.MaxKey && len(it.rest) == numberSize
	}
	return len(it.key) > 0 && len(it.key) <= api.MaxKey && len(it.rest) <= api.MaxValue
}

// node is what a page of a tree holds.
type node struct {
	page  int // which that is, or 0: none yet
	level int // how many pages lie below it, one below the other; so 0 is a leaf
	keys  span
	items []item // in the order of their keys; the first one of a node that is not a leaf begins its span
}

// size is how many bytes n has.
func (n node) size() int { return levelSize + size(n.items) }

func size(l []item) int {
	var sum int
	for _, it := range l {
		sum += it.size()
	}
	return sum
}

// find answers which item has the key, and true, or where it would stand.
func (n node) find(key []byte) (int, bool) {
	return slices.BinarySearchFunc(n.items, key, func(it item, key []byte) int {
		return bytes.Compare(it.key, key)
	})
}

// toward is which item of n, which is no leaf, the key belongs below.
func (n node) toward(key []byte) int {
	i, there := n.find(key)
	if there {
		return i
	}
	return i - 1 // the first one begins the span, in which the key is
}

// span is which keys belong below item i of n, which is no leaf.
func (n node) span(i int) span {
	if i+1 < len(n.items) {
		return span{n.items[i].key, n.items[i+1].key}
	}
	return span{n.items[i].key, n.keys.to}
}

// pairs are those of a leaf whose keys are in that span, in memory of their own.
func (n node) pairs(keys span) []Pair {
	var l []Pair
	for _, it := range n.items {
		if keys.has(it.key) {
			l = append(l, Pair{bytes.Clone(it.key), bytes.Clone(it.rest)})
		}
	}
	return l
}

// right tells whether n is what a tree may have where its span is.
func (n node) right() bool {
	if len(n.items) == 0 {
		return false
	}
	for i, it := range n.items {
		if !it.may(n.level) || !n.keys.has(it.key) || i > 0 && bytes.Compare(n.items[i-1].key, it.key) >= 0 {
			return false
		}
	}
	// Where each page begins its own span, and each but a leaf parts it, none is met twice.
	return n.level == 0 || len(n.items) > 1 && bytes.Equal(n.items[0].key, n.keys.from)
}

// told is the bytes of n.
func (n node) told() []byte {
	b := append(make([]byte, 0, n.size()), byte(n.level))
	for _, it := range n.items {
		b = append(append(b, digits(len(it.key))...), digits(len(it.rest))...)
		b = append(append(b, it.key...), it.rest...)
	}
	return b
}

// heard is the node whose bytes b is.
func heard(b []byte) node {
	level, b := cut(b, levelSize)
	n := node{level: int(level[0])}
	for len(b) > 0 {
		var it item
		it, b = heardItem(b)
		n.items = append(n.items, it)
	}
	return n
}

// heardItem is the item that b begins with, and what is behind it.
func heardItem(b []byte) (item, []byte) {
	key, b := cut(b, lengthSize)
	rest, b := cut(b, lengthSize)
	var it item
	it.key, b = cut(b, number(key))
	it.rest, b = cut(b, number(rest))
	return it, b
}

// cut is the first n bytes of b, and those behind them; what is appended to the first leaves these alone.
func cut(b []byte, n int) ([]byte, []byte) {
	if n > len(b) {
		throw(api.ErrBroken)
	}
	return b[:n:n], b[n:]
}

// digits are the two bytes of n, the higher first.
func digits(n int) []byte { return []byte{byte(n >> 8), byte(n)} }

// number is what digits were made of.
func number(b []byte) int { return int(b[0])<<8 | int(b[1]) }
