package lin

import (
	"slices"

	"shutter/api"
	"shutter/hist"
	"shutter/model"
)

// anyMulti is a number of keys that model.New takes: histories without a MultiGet are the same for all.
const anyMulti = 1

// Keys are those of a history's Gets, Puts, Deletes and Swaps, rising, each once.
func Keys(l []api.Did) []uint64 {
	var keys []uint64
	for _, d := range l {
		if ofKey(d.Op) {
			keys = append(keys, d.Op.Key)
		}
	}
	slices.Sort(keys)
	return slices.Compact(keys)
}

// Split is what a history has of a key.
func Split(l []api.Did, key uint64) ([]api.Did, api.Errno) {
	if hist.Right(spansOf(l)) != api.OK {
		return nil, api.ErrHistory
	}
	var part []api.Did
	counts := map[int]int{} // of each thread how many of its operations are in the part
	for _, d := range l {
		if !ofKey(d.Op) || d.Op.Key != key {
			continue
		}
		d.Span.Index = counts[d.Span.Thread]
		counts[d.Span.Thread]++
		d.Op.Keys = slices.Clone(d.Op.Keys)
		d.Answer.Pairs = slices.Clone(d.Answer.Pairs)
		part = append(part, d)
	}
	return part, api.OK
}

// Local tells whether a history is linearizable key by key.
func Local(l []api.Did) (bool, api.Errno) {
	if errno := rightOfKeys(l); errno != api.OK {
		return false, errno
	}
	parts := map[uint64][]api.Did{} // all at once: a Split of each key would go through the list as often as there are keys
	for _, d := range l {
		parts[d.Op.Key] = append(parts[d.Op.Key], d)
	}
	keys := Keys(l)
	for _, key := range keys {
		if len(parts[key]) > api.MaxFind {
			return false, api.ErrLong
		}
	}
	for _, key := range keys {
		if !shown(parts[key]) {
			return false, api.OK
		}
	}
	return true, api.OK
}

// Shortest is the first step up to which no order shows a history; -1: one shows it.
func Shortest(l []api.Did) (int, api.Errno) {
	if errno := rightOfKeys(l); errno != api.OK {
		return 0, errno
	}
	if len(l) > api.MaxFind {
		return 0, api.ErrLong
	}
	// Only a return can end what orders show: a call that begins may be left out.
	for _, step := range returns(l) {
		if !shown(upTo(l, step)) {
			return step, api.OK
		}
	}
	return -1, api.OK
}

// rightOfKeys tells what is wrong with a history that is to be of Gets, Puts, Deletes and Swaps alone.
func rightOfKeys(l []api.Did) api.Errno {
	if hist.Right(spansOf(l)) != api.OK {
		return api.ErrHistory
	}
	for _, d := range l {
		if !ofKey(d.Op) {
			return api.ErrOp
		}
	}
	return api.OK
}

// ofKey tells whether an operation is one of the four that have a Key.
func ofKey(op api.Op) bool {
	switch op.Kind {
	case api.Get, api.Put, api.Delete, api.Swap:
		return true
	}
	return false
}

// shown tells whether an order shows a history of the four operations.
func shown(l []api.Did) bool {
	m, errno := model.New(anyMulti)
	return errno == api.OK && newSearch(l).shown(m)
}

// returns are the steps at which operations returned, rising.
func returns(l []api.Did) []int {
	var steps []int
	for _, d := range l {
		if !pending(d) {
			steps = append(steps, d.Span.To)
		}
	}
	slices.Sort(steps)
	return steps
}

// upTo is the beginning of a history up to a step.
func upTo(l []api.Did, step int) []api.Did {
	cut := hist.Cut(spansOf(l), step)
	var part []api.Did
	for _, d := range l {
		if d.Span.From > step {
			continue
		}
		d.Span = cut[len(part)]
		part = append(part, d)
	}
	return part
}
