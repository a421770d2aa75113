package dump

import (
	"iter"

	"shutter/api"
)

func keyOfPair(p api.Pair) uint64 { return p.Key }

func keyOfChange(c Change) uint64 { return c.Key }

// rise tells whether the keys of a row rise.
func rise[T any](row []T, key func(T) uint64) bool {
	for i := 1; i < len(row); i++ {
		if key(row[i-1]) >= key(row[i]) {
			return false
		}
	}
	return true
}

func rightPairs(l []api.Pair) bool {
	return rise(l, keyOfPair)
}

func rightChanges(l []Change) bool {
	for _, c := range l {
		if !c.isRight() {
			return false
		}
	}
	return rise(l, keyOfChange)
}

// sideBySide goes through two rows whose keys rise: it ranges over all keys, rising, with what each row has of a key; nil, where that is nothing.
func sideBySide[A, B any](a []A, b []B, keyOfA func(A) uint64, keyOfB func(B) uint64) iter.Seq2[*A, *B] {
	return func(yield func(*A, *B) bool) {
		a, b := a, b
		for len(a) > 0 || len(b) > 0 {
			var x *A
			var y *B
			inA := len(b) == 0 || len(a) > 0 && keyOfA(a[0]) <= keyOfB(b[0])
			inB := len(a) == 0 || len(b) > 0 && keyOfB(b[0]) <= keyOfA(a[0])
			if inA {
				x, a = &a[0], a[1:]
			}
			if inB {
				y, b = &b[0], b[1:]
			}
			if !yield(x, y) {
				return
			}
		}
	}
}

// between is what became of a key that had the one pair and has the other; nil: none.
func between(old, now *api.Pair) Change {
	var c Change
	if old != nil {
		c.Key, c.Had, c.Old = old.Key, true, old.Value
	}
	if now != nil {
		c.Key, c.Has, c.New = now.Key, true, now.Value
	}
	return c
}

// isRight tells whether it is a change: of a key that stays as it was it is none.
func (c Change) isRight() bool {
	switch {
	case c.Had && c.Has:
		return c.Old != c.New
	case c.Had:
		return c.New == 0
	case c.Has:
		return c.Old == 0
	}
	return false
}

// fits tells whether the change says of its key what this has ahead; nil: none.
func (c Change) fits(p *api.Pair) bool {
	if p == nil {
		return !c.Had
	}
	return c.Had && c.Old == p.Value
}

// op is the operation that makes the change.
func (c Change) op() api.Op {
	if !c.Has {
		return api.Op{Kind: api.Delete, Key: c.Key}
	}
	return api.Op{Kind: api.Put, Key: c.Key, Value: c.New}
}
