package progress

import (
	"shutter/api"
	"shutter/arena"
	"shutter/store"
	"shutter/vcas"
	"shutter/word"
)

// Measure is what a store has by now.
func Measure(c api.Config, s api.Script) (api.Bounds, api.Errno) {
	s.Config = c
	r, errno := store.Run(s)
	if errno != api.OK {
		return api.Bounds{}, errno
	}
	end, errno := redone(c, r.Trace)
	if errno != api.OK {
		return api.Bounds{}, errno
	}
	return api.Bounds{
		Threads:  len(s.Threads),
		Branches: branchesOf(end),
		Versions: 1 + swaps(r.Trace),
		Slots:    c.Slots,
		Multi:    c.Multi,
	}, api.OK
}

// swaps is how many Cas were done.
func swaps(trace []api.Access) int {
	n := 0
	for _, a := range trace {
		if a.Kind == api.Cas && a.Ok {
			n++
		}
	}
	return n
}

// redone is a store that holds what a run left: a memory's cells are what its trace says.
func redone(c api.Config, trace []api.Access) (*store.Store, api.Errno) {
	s, errno := store.New(c)
	if errno != api.OK {
		return nil, errno
	}
	for _, a := range trace {
		redo(s.Memory().View(a.Thread), a)
	}
	return s, api.OK
}

// redo makes an access again; a Load leaves nothing.
func redo(v *arena.View, a api.Access) {
	switch a.Kind {
	case api.Store:
		v.Store(a.Addr, a.A)
	case api.Cas:
		v.Cas(a.Addr, a.A, a.B)
	case api.Add:
		v.Add(a.Addr, a.A)
	case api.Alloc:
		v.Alloc(a.Values)
	}
}

// branchesOf is how many branches can be come to from the root by the newest values.
func branchesOf(s *store.Store) int {
	l := []uint64{s.Tree().Root}
	// The list grows while it is gone through: each branch brings those that lie in it.
	for i := 0; i < len(l); i++ {
		for digit := range uint64(api.Fan) {
			if child, ok := branchIn(s.Memory(), l[i]+digit); ok {
				l = append(l, child)
			}
		}
	}
	return len(l)
}

// branchIn is the branch that is an object's newest value, and whether that is one.
func branchIn(m *arena.Memory, object uint64) (uint64, bool) {
	l := vcas.Versions(m, object)
	if len(l) == 0 {
		return 0, false
	}
	kind, addr := word.Split(l[0].Value)
	return addr, kind == api.Branch
}
