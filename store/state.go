package store

import (
	"slices"

	"quitrent/api"
	"quitrent/wire"
)

// rootSize is how many bytes of a head tell the root.
const rootSize = 8

// state is the root, and which pages are taken: what a head says.
type state struct {
	root  int
	taken [api.MaxPages / 8]byte // of each page a bit, in bytes of eight, the lowest bit first
}

// has tells whether page p is taken.
func (t *state) has(p int) bool {
	return p >= 0 && p < api.MaxPages && t.taken[p/8]>>(p%8)&1 == 1
}

// turn makes page p a taken one, or, if it was, not.
func (t *state) turn(p int) {
	t.taken[p/8] ^= 1 << (p % 8)
}

// told is the bytes of the head that says t, on a disk of size pages.
func (t *state) told(size int) []byte {
	return slices.Concat(wire.Int(nil, int64(t.root)), t.taken[:bitsSize(size)])
}

// heard is what a head of the bytes b says, on a disk of size pages, and true, if it may be said.
func heard(b []byte, size int) (state, bool) {
	if len(b) != rootSize+bitsSize(size) {
		return state{}, false
	}
	var t state
	copy(t.taken[:], b[rootSize:])
	for p := range api.MaxPages {
		if t.has(p) && (p < heads || p >= size) {
			return state{}, false
		}
	}
	// A root may be a number that is no int: so it is one of a page ahead of all else.
	root := wire.New(b).Uint()
	if root >= api.MaxPages || root != 0 && !t.has(int(root)) {
		return state{}, false
	}
	t.root = int(root)
	return t, true
}

// bitsSize is how many bytes are wanted for a bit of each of size pages.
func bitsSize(size int) int { return (size + 7) / 8 }
