package model

import (
	"cmp"
	"math"
	"slices"

	"shutter/api"
)

// content is keys with their values.
type content map[uint64]uint64

// of are those of the keys that are there, with their values, in the order of the keys.
func (c content) of(keys []uint64) []api.Pair {
	var pairs []api.Pair
	for _, key := range keys {
		if value, there := c[key]; there {
			pairs = append(pairs, api.Pair{Key: key, Value: value})
		}
	}
	return pairs
}

// between are the keys from lo to hi, with their values, by rising keys.
func (c content) between(lo, hi uint64) []api.Pair {
	var pairs []api.Pair
	for key, value := range c {
		if lo <= key && key <= hi {
			pairs = append(pairs, api.Pair{Key: key, Value: value})
		}
	}
	slices.SortFunc(pairs, byKey)
	return pairs
}

// picture is the same by itself: what becomes of the one changes nothing of the other.
func (c content) picture() content {
	p := make(content, len(c))
	for key, value := range c {
		p[key] = value
	}
	return p
}

// all are all keys, with their values, by rising keys.
func (c content) all() []api.Pair {
	return c.between(0, math.MaxUint64)
}

// count is how many keys there are from lo to hi.
func (c content) count(lo, hi uint64) uint64 {
	var n uint64
	for key := range c {
		if lo <= key && key <= hi {
			n++
		}
	}
	return n
}

func byKey(a, b api.Pair) int {
	return cmp.Compare(a.Key, b.Key)
}
