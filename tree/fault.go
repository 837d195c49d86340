package tree

import (
	"quitrent/api"
	"quitrent/store"
)

// fault is what goes wrong deep below, on its way up to the call that answers it.
type fault api.Errno

// throw lets the call that is under way answer e.
func throw(e api.Errno) { panic(fault(e)) }

// must throws e, if anything is wrong.
func must(e api.Errno) {
	if e != api.OK {
		throw(e)
	}
}

// caught does what do says, if s is a store with power, and answers what was thrown meanwhile.
func caught(s *store.Store, do func()) (e api.Errno) {
	defer func() {
		switch f := recover().(type) {
		case nil:
		case fault:
			e = api.Errno(f)
		default: // nothing that was thrown: it is not to be taken for an answer
			panic(f)
		}
	}()
	// Page 0 is a head, which is never read: any other error is why nothing of s is.
	if _, e := s.Read(0); e != api.ErrArg {
		return e
	}
	do()
	return api.OK
}
