package trie

import (
	"cmp"
	"slices"

	"shutter/api"
	"shutter/arena"
	"shutter/word"
)

// Pairs are what is there, by rising keys; no access.
func Pairs(m *arena.Memory, t api.Tree) []api.Pair {
	g := gatherer{memory: m, seen: map[visit]struct{}{}}
	g.branch(t.Root, 0)
	return firstByKeys(g.pairs)
}

// firstByKeys puts pairs into the order of their keys; of like keys the first one stays.
func firstByKeys(l []api.Pair) []api.Pair {
	slices.SortStableFunc(l, func(a, b api.Pair) int { return cmp.Compare(a.Key, b.Key) })
	return slices.CompactFunc(l, func(a, b api.Pair) bool { return a.Key == b.Key })
}

// visit is a branch that is gone through at a level.
type visit struct {
	branch uint64
	level  int
}

// gatherer gathers the leaves of branches as they lie in a memory, by digits.
type gatherer struct {
	memory *arena.Memory
	seen   map[visit]struct{}
	pairs  []api.Pair
}

// branch goes through a branch, unless it has been at this level: the same leaves would come up again, and branches that lie in themselves many times would never come to an end.
func (g *gatherer) branch(addr uint64, level int) {
	at := visit{addr, level}
	if _, known := g.seen[at]; known || level == api.Levels {
		return
	}
	g.seen[at] = struct{}{}
	for digit := range uint64(api.Fan) {
		switch kind, child := word.Split(g.value(addr + digit)); kind {
		case api.Leaf:
			pair := api.Pair{Key: g.memory.Peek(child), Value: g.memory.Peek(child + 1)}
			g.pairs = append(g.pairs, pair)
		case api.Branch:
			g.branch(child, level+1)
		}
	}
}

// value is an object's.
func (g *gatherer) value(object uint64) uint64 {
	version := g.memory.Peek(object)
	if version == 0 {
		return 0
	}
	return g.memory.Peek(version)
}
