package replay

import (
	"shutter/api"
	"shutter/arena"
)

// retryTable has, for each kind at its number, what makes an access once more, and tells whether the memory tells what it told.
type retryTable [api.Alloc + 1]func(v *arena.View, a api.Access) bool

func retries() *retryTable {
	return &retryTable{
		api.Load: func(v *arena.View, a api.Access) bool { return v.Load(a.Addr) == a.Got },
		api.Store: func(v *arena.View, a api.Access) bool {
			v.Store(a.Addr, a.A)
			return true
		},
		api.Cas:   func(v *arena.View, a api.Access) bool { return v.Cas(a.Addr, a.A, a.B) == a.Ok },
		api.Add:   func(v *arena.View, a api.Access) bool { return v.Add(a.Addr, a.A) == a.Got },
		api.Alloc: func(v *arena.View, a api.Access) bool { return v.Alloc(a.Values) == a.Addr },
	}
}

// Check tells whether a trace is one of a new memory: the number of the first access that can't be.
func Check(cells int, l []api.Access) (api.Errno, int) {
	_, errno, number := goThrough(cells, l)
	return errno, number
}

// Memory is what a trace leaves.
func Memory(cells int, l []api.Access) ([]uint64, api.Errno) {
	m, errno, _ := goThrough(cells, l)
	if errno != api.OK {
		return nil, errno
	}
	held := make([]uint64, m.Cells())
	for addr := range held {
		held[addr] = m.Peek(uint64(addr))
	}
	return held, api.OK
}

// goThrough is a memory behind a trace, and how many accesses that has; or an error, and the number of the access that it is of.
func goThrough(cells int, l []api.Access) (*arena.Memory, api.Errno, int) {
	m, errno := arena.New(cells, false)
	if errno != api.OK {
		return nil, errno, 0
	}
	if wrong := forms().firstWrong(l); wrong < len(l) {
		return nil, api.ErrForm, wrong
	}
	// Whose access it is plays no part: one view makes them all.
	v, again := m.View(0), retries()
	for i, a := range l {
		if !again[a.Kind](v, a) {
			return nil, api.ErrTrace, i
		}
	}
	return m, api.OK, len(l)
}
