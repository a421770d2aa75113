package model_test

import (
	"slices"

	"shutter/api"
)

// naive is a store written down by the document's table alone, with lists in the place of maps: what model is held against.
type naive struct {
	multi    int
	now      []api.Pair // by rising keys
	pictures []picture  // by rising handles
}

type picture struct {
	handle uint64
	pairs  []api.Pair
}

func (n naive) find(key uint64) (uint64, bool) {
	for _, p := range n.now {
		if p.Key == key {
			return p.Value, true
		}
	}
	return 0, false
}

func (n naive) picture(handle uint64) ([]api.Pair, bool) {
	for _, p := range n.pictures {
		if p.handle == handle {
			return p.pairs, true
		}
	}
	return nil, false
}

// with has the key with the value.
func (n naive) with(key, value uint64) naive {
	n = n.without(key)
	i := 0
	for i < len(n.now) && n.now[i].Key < key {
		i++
	}
	n.now = slices.Insert(n.now, i, api.Pair{Key: key, Value: value})
	return n
}

func (n naive) without(key uint64) naive {
	var now []api.Pair
	for _, p := range n.now {
		if p.Key != key {
			now = append(now, p)
		}
	}
	n.now = now
	return n
}

func (n naive) holding(handle uint64) naive {
	pictures := slices.Clone(n.pictures)
	i := 0
	for i < len(pictures) && pictures[i].handle < handle {
		i++
	}
	n.pictures = slices.Insert(pictures, i, picture{handle, slices.Clone(n.now)})
	return n
}

func (n naive) released(handle uint64) naive {
	var pictures []picture
	for _, p := range n.pictures {
		if p.handle != handle {
			pictures = append(pictures, p)
		}
	}
	n.pictures = pictures
	return n
}

// next is whether the operation may tell the answer, and the store behind it.
func (n naive) next(op api.Op, a api.Answer) (bool, naive) {
	if a.Errno != api.OK && !same(a, api.Answer{Errno: a.Errno}) {
		return false, n
	}
	switch op.Kind {
	case api.Get, api.Put, api.Delete, api.Swap:
		return n.nextOfKey(op, a)
	case api.Snapshot:
		if a.Errno != api.OK {
			return a.Errno == api.ErrSlot || a.Errno == api.ErrStamp, n
		}
		if _, holds := n.picture(a.Handle); holds || a.Handle == 0 || !same(a, api.Answer{Handle: a.Handle}) {
			return false, n
		}
		return true, n.holding(a.Handle)
	case api.Release:
		if _, holds := n.picture(op.Handle); !holds {
			return a.Errno == api.ErrHandle, n
		}
		if !same(a, api.Answer{}) {
			return false, n
		}
		return true, n.released(op.Handle)
	case api.MultiGet, api.Range, api.Count:
		return n.mayQuery(op, a), n
	case api.Collect:
		return same(a, api.Answer{Count: a.Count}), n
	}
	return a.Errno == api.ErrOp, n
}

func (n naive) nextOfKey(op api.Op, a api.Answer) (bool, naive) {
	if a.Errno != api.OK {
		return a.Errno == api.ErrMemory && op.Kind != api.Get, n
	}
	value, found := n.find(op.Key)
	done := op.Kind == api.Swap && found && value == op.Old
	if !same(a, api.Answer{Found: found, Value: value, Done: done}) {
		return false, n
	}
	switch {
	case op.Kind == api.Put || done:
		return true, n.with(op.Key, op.Value)
	case op.Kind == api.Delete:
		return true, n.without(op.Key)
	}
	return true, n
}

func (n naive) mayQuery(op api.Op, a api.Answer) bool {
	if op.Kind == api.MultiGet && len(op.Keys) > n.multi {
		return a.Errno == api.ErrLong
	}
	pairs, holds := n.picture(op.Handle)
	if !holds {
		return a.Errno == api.ErrHandle || a.Errno == api.ErrStale
	}
	var told []api.Pair
	if op.Kind == api.MultiGet {
		for _, key := range op.Keys {
			for _, p := range pairs {
				if p.Key == key {
					told = append(told, p)
				}
			}
		}
		return same(a, api.Answer{Pairs: told})
	}
	for _, p := range pairs {
		if p.Key >= op.Lo && p.Key <= op.Hi {
			told = append(told, p)
		}
	}
	if op.Kind == api.Count {
		return same(a, api.Answer{Count: uint64(len(told))})
	}
	return same(a, api.Answer{Pairs: told})
}

// same tells whether answers have the same fields, one by one.
func same(a, b api.Answer) bool {
	if len(a.Pairs) != len(b.Pairs) {
		return false
	}
	for i := range a.Pairs {
		if a.Pairs[i] != b.Pairs[i] {
			return false
		}
	}
	return a.Errno == b.Errno && a.Found == b.Found && a.Value == b.Value &&
		a.Done == b.Done && a.Handle == b.Handle && a.Count == b.Count
}
