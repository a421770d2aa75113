package trie_test

import (
	"math/rand"
	"reflect"
	"slices"
	"testing"

	"shutter/api"
	"shutter/arena"
	"shutter/trie"
)

// P11.2: Pairs are told by rising keys, whatever their ways are.
func TestPairs(t *testing.T) {
	m := newTrie(t)
	checkPairs(t, m)
	for _, key := range []uint64{500, 3, greatest, 0, 77, 1 << 40} {
		put(t, m, key, key+1)
	}
	checkPairs(t, m, api.Pair{Key: 0, Value: 1}, api.Pair{Key: 3, Value: 4}, api.Pair{Key: 77, Value: 78}, api.Pair{Key: 500, Value: 501}, api.Pair{Key: 1 << 40, Value: 1<<40 + 1}, api.Pair{Key: greatest})
	alone(t, m, trie.NewRemove(tree, 77))
	put(t, m, 3, 9)
	checkPairs(t, m, api.Pair{Key: 0, Value: 1}, api.Pair{Key: 3, Value: 9}, api.Pair{Key: 500, Value: 501}, api.Pair{Key: 1 << 40, Value: 1<<40 + 1}, api.Pair{Key: greatest})
}

// P11.2: a version that has no stamp yet is an object's value as any other.
func TestPairsOfNow(t *testing.T) {
	m := newTrie(t)
	p := trie.NewPut(tree, 7, 1)
	until(t, m, p, 4)
	checkPairs(t, m)
	p.Step(m.View(0))
	checkPairs(t, m, api.Pair{Key: 7, Value: 1})
}

// P11.2: of a key that lies there twice the first one by digits.
func TestPairsOfAKeyTwice(t *testing.T) {
	m := newTrie(t)
	layLeaf(m, root+9, 7, 90)
	layLeaf(m, root+8, 7, 80)
	layLeaf(m, root+10, 7, 100)
	layLeaf(m, root+7, 5, 70)
	checkPairs(t, m, api.Pair{Key: 5, Value: 70}, api.Pair{Key: 7, Value: 80})
	inner := layBranch(m, root+6)
	layLeaf(m, inner+63, 7, 63)
	layLeaf(m, inner+62, 5, 62)
	checkPairs(t, m, api.Pair{Key: 5, Value: 62}, api.Pair{Key: 7, Value: 63})
	// A like pair, and one whose value is smaller, stand back as any others.
	layLeaf(m, inner+61, 7, 100)
	checkPairs(t, m, api.Pair{Key: 5, Value: 62}, api.Pair{Key: 7, Value: 100})
}

// P11.2: the same of many leaves: the order of like keys is kept.
func TestPairsOfKeysOften(t *testing.T) {
	m := newTrie(t)
	for digit := range uint64(api.Fan) {
		layLeaf(m, root+digit, 2-digit%3, 100-digit)
	}
	checkPairs(t, m, api.Pair{Key: 0, Value: 98}, api.Pair{Key: 1, Value: 99}, api.Pair{Key: 2, Value: 100})
}

// P11.2: branches are gone through at most Levels deep, the root among them.
func TestPairsTooDeep(t *testing.T) {
	m := newTrie(t)
	branch := uint64(root)
	var want []api.Pair
	for level := range uint64(14) {
		layLeaf(m, branch+5, level, level+100)
		if level < api.Levels {
			want = append(want, api.Pair{Key: level, Value: level + 100})
		}
		branch = layBranch(m, branch+6)
	}
	checkPairs(t, m, want...)
}

// P11.2, P1 of the document's rules: branches that lie in themselves, in all of their objects, come to an end.
func TestPairsOfABranchWithinItself(t *testing.T) {
	m := newTrie(t)
	for digit := range uint64(api.Fan) {
		lay(m, root+digit, 2*root)
	}
	checkPairs(t, m)
	layLeaf(m, root+50, 7, 1)
	checkPairs(t, m, api.Pair{Key: 7, Value: 1})

	// Two that lie in one another, and in themselves.
	m = newTrie(t)
	inner := layBranch(m, root)
	for digit := uint64(1); digit < 30; digit++ {
		lay(m, inner+digit, 2*root)
		lay(m, root+digit, 2*inner)
		lay(m, inner+digit+32, 2*inner)
		lay(m, root+digit+32, 2*root)
	}
	layLeaf(m, root+31, 7, 1)
	layLeaf(m, inner+31, 8, 2)
	checkPairs(t, m, api.Pair{Key: 7, Value: 1}, api.Pair{Key: 8, Value: 2})
}

// P11.2: of a branch within itself the first one by digits is the one at the end of the longest way.
func TestPairsFirstWithinItself(t *testing.T) {
	m := newTrie(t)
	inner := layBranch(m, root)
	lay(m, inner, 2*root)
	layLeaf(m, root+1, 7, 1)
	layLeaf(m, inner+1, 7, 2)
	checkPairs(t, m, api.Pair{Key: 7, Value: 1}) // At the level 10 it is the root's turn.
	outer := layBranch(m, root+63)
	from := api.Tree{Camera: clock, Root: outer}
	lay(m, outer, 2*root)
	if l := trie.Pairs(m, from); len(l) != 1 || l[0] != (api.Pair{Key: 7, Value: 2}) {
		t.Error(l)
	}
}

// P11.2: leaves and versions that are nowhere.
func TestPairsOfNoCells(t *testing.T) {
	m := newTrie(t)
	m.View(9).Store(root, 1<<40)       // a version
	lay(m, root+1, 1<<50)              // a branch
	lay(m, root+2, 0)                  // nothing
	m.View(9).Store(root+4, free+2000) // behind the last cell
	checkPairs(t, m)
	lay(m, root+3, 1<<50+1) // a leaf
	checkPairs(t, m, api.Pair{})
	m.View(9).Store(0, 30)
	lay(m, root+2, 1) // the leaf at 0
	checkPairs(t, m, api.Pair{}, api.Pair{Key: 30, Value: 1})
}

// P11.2: an object that holds 0 has no version, whatever the cell 0 holds.
func TestPairsWithoutVersions(t *testing.T) {
	m := newTrie(t)
	leaf := m.View(9).Alloc([]uint64{7, 1})
	m.View(9).Store(0, 2*leaf+1)
	checkPairs(t, m)
}

// P3 of the document's rules: what Pairs tells is the caller's.
func TestPairsAreTheCallers(t *testing.T) {
	m := newTrie(t)
	put(t, m, 7, 1)
	put(t, m, 8, 2)
	l := trie.Pairs(m, tree)
	l[0] = api.Pair{Key: 50, Value: 60}
	l = append(l[:1], api.Pair{Key: 9})
	checkPairs(t, m, api.Pair{Key: 7, Value: 1}, api.Pair{Key: 8, Value: 2})
	if len(l) != 2 || l[0].Key != 50 {
		t.Error(l)
	}
}

// P1 of the document's rules: a nil memory.
func TestPairsOfNil(t *testing.T) {
	for _, tree := range []api.Tree{tree, {}} {
		if l := trie.Pairs(nil, tree); len(l) != 0 {
			t.Error(l)
		}
	}
}

// naivePairs goes through all branches by digits, each time anew.
func naivePairs(m *arena.Memory, branch uint64, level int) []api.Pair {
	var l []api.Pair
	for digit := range uint64(64) {
		version := m.Peek(branch + digit)
		if version == 0 {
			continue
		}
		child := m.Peek(version)
		if child%2 == 1 {
			l = append(l, api.Pair{Key: m.Peek(child / 2), Value: m.Peek(child/2 + 1)})
		} else if child != 0 && level < 10 {
			l = append(l, naivePairs(m, child/2, level+1)...)
		}
	}
	return l
}

// P11.2: Pairs of drawn cells, in which branches lie in one another, held against a walk that does each way anew.
func TestPairsOfDrawnCells(t *testing.T) {
	twice := 0
	for seed := range int64(300) {
		r := rand.New(rand.NewSource(seed))
		m := newTrie(t)
		branches := []uint64{root}
		for range r.Intn(4) {
			branches = append(branches, m.View(9).Alloc(make([]uint64, api.Fan)))
		}
		for _, branch := range branches {
			for range 1 + r.Intn(3) {
				object := branch + uint64(r.Intn(api.Fan))
				if r.Intn(3) == 0 {
					lay(m, object, 2*branches[r.Intn(len(branches))])
				} else {
					layLeaf(m, object, uint64(r.Intn(5)), r.Uint64())
				}
			}
		}
		var want []api.Pair
		all := naivePairs(m, root, 0)
		for key := range uint64(5) {
			if i := slices.IndexFunc(all, func(p api.Pair) bool { return p.Key == key }); i >= 0 {
				want = append(want, all[i])
			}
		}
		if len(all) > len(want) {
			twice++
		}
		if got := trie.Pairs(m, tree); len(got) != len(want) || len(want) > 0 && !reflect.DeepEqual(got, want) {
			t.Fatalf("seed %d: %v, not %v", seed, got, want)
		}
	}
	if twice < 30 {
		t.Error("too little has come up:", twice)
	}
}
