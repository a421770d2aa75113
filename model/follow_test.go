package model_test

import (
	"math"
	"math/rand"
	"slices"
	"testing"

	"shutter/api"
	"shutter/model"
)

// operations are those of a small store: all kinds, keys and handles that are there and not, and a kind that is none.
func operations() []api.Op {
	return []api.Op{
		get(7), get(8), get(9),
		put(7, 1), put(7, 2), put(8, 0), put(9, 2),
		remove(7), remove(8),
		swap(7, 1, 2), swap(7, 2, 2), swap(8, 0, 1), swap(9, 0, 1),
		snapshot(),
		release(0), release(1), release(2), release(3),
		multiGet(1), multiGet(1, 8), multiGet(1, 8, 7), multiGet(2, 7, 7), multiGet(3, 9), multiGet(1, 7, 8, 9), multiGet(0, 7),
		inRange(1, 0, 9), inRange(1, 8, 8), inRange(1, 9, 0), inRange(2, 0, math.MaxUint64), inRange(3, 0, 9),
		count(1, 0, 9), count(1, 7, 7), count(1, 8, 7), count(2, 0, 9), count(0, 0, 9),
		collect(),
		{Kind: 0}, {Kind: 11, Key: 7, Handle: 1},
	}
}

// answers are all that a small store could tell, and more that none may.
func answers() []api.Answer {
	var l []api.Answer
	lists := [][]api.Pair{nil, pairs(7, 1), pairs(8, 0), pairs(7, 1, 8, 0), pairs(8, 0, 7, 1), pairs(7, 2), pairs(7, 2, 7, 2), pairs(7, 2, 9, 2)}
	for _, errno := range []api.Errno{api.OK, api.ErrNil, api.ErrLong, api.ErrMemory, api.ErrStamp, api.ErrSlot, api.ErrHandle, api.ErrStale, api.ErrOp, -1} {
		for bits := range 4 {
			for value := range uint64(3) {
				for handle := range uint64(4) {
					for number := range uint64(3) {
						for _, list := range lists {
							l = append(l, api.Answer{Errno: errno, Found: bits&1 > 0, Done: bits&2 > 0, Value: value, Handle: handle, Count: number, Pairs: list})
						}
					}
				}
			}
		}
	}
	return l
}

// stores are models and the same as naive stores: ways of operations from the empty one on.
func stores(t *testing.T) ([]*model.Model, []naive) {
	ways := [][]api.Op{
		{},
		{put(7, 1), put(8, 0)},
		{put(7, 1), put(8, 0), snapshot()},
		{put(7, 1), put(8, 0), snapshot(), put(7, 2), remove(8), put(9, 2), snapshot()},
		{snapshot(), put(7, 2)},
	}
	var models []*model.Model
	var naives []naive
	for _, way := range ways {
		m, n := newModel(t, 2), naive{multi: 2}
		handle := uint64(0)
		for _, op := range way {
			if op.Kind == api.Snapshot {
				handle++
			}
			told := m.Do(op, handle)
			may := false
			if may, n = n.next(op, told); !may {
				t.Fatalf("%v may not tell %v", op, told)
			}
		}
		checkModel(t, m, n)
		models, naives = append(models, m), append(naives, n)
	}
	return models, naives
}

// P6.1, P6.4, P6.5: of some stores all operations with all answers, held against the naive store.
func TestTakeOfAllAnswers(t *testing.T) {
	models, naives := stores(t)
	all := answers()
	for i, m := range models {
		for _, op := range operations() {
			lets := 0 // answers without ErrMemory and ErrStale
			f := m.Fork()
			for _, a := range all {
				may, next := naives[i].next(op, a)
				if got := f.Take(op, a); got != may {
					t.Fatalf("store %d: Take(%v, %v): %v", i, op, a, got)
				}
				if (!may || a.Errno != api.OK) && !f.Same(m) {
					t.Fatalf("store %d: Take(%v, %v) changed something", i, op, a)
				}
				if !may {
					continue
				}
				checkModel(t, f, next)
				f = m.Fork()
				if a.Errno != api.ErrMemory && a.Errno != api.ErrStale {
					lets++
				}
			}
			if lets != 1 && op.Kind != api.Snapshot && op.Kind != api.Collect {
				t.Errorf("store %d: %v may tell %d answers", i, op, lets)
			}
		}
	}
}

// P6.2, P6.4.
func TestDoIsWhatTakeLets(t *testing.T) {
	models, naives := stores(t)
	for i, m := range models {
		for _, op := range operations() {
			for handle := uint64(1); handle < 5; handle++ {
				done, taken := m.Fork(), m.Fork()
				told := done.Do(op, handle)
				if !taken.Take(op, told) || !done.Same(taken) {
					t.Errorf("store %d: %v told %v, which Take does not let it, or does otherwise", i, op, told)
				}
				may, next := naives[i].next(op, told)
				if !may {
					t.Errorf("store %d: %v may not tell %v", i, op, told)
				}
				checkModel(t, done, next)
				checkNeverTold(t, op, told)
			}
		}
	}
}

// checkNeverTold tells of errors that Do has no cause for.
func checkNeverTold(t *testing.T, op api.Op, told api.Answer) {
	t.Helper()
	switch told.Errno {
	case api.ErrMemory, api.ErrStamp, api.ErrStale:
		t.Errorf("%v told %d", op, told.Errno)
	case api.ErrSlot:
		if op.Kind != api.Snapshot {
			t.Errorf("%v told ErrSlot", op)
		}
	}
	if op.Kind == api.Collect && !same(told, none()) {
		t.Errorf("Collect told %v", told)
	}
}

// P6.1: numbers that the small answers do not have.
func TestTakeOfAnyCountAndHandle(t *testing.T) {
	m := newModel(t, 1)
	for _, number := range []uint64{1, 1000, 1 << 40, math.MaxUint64} {
		if !m.Take(collect(), api.Answer{Count: number}) {
			t.Errorf("Collect may not tell %d", number)
		}
		if !m.Take(snapshot(), api.Answer{Handle: number}) || m.Take(snapshot(), api.Answer{Handle: number}) {
			t.Errorf("Snapshot, %d", number)
		}
		if !m.Take(release(number), none()) || m.Take(release(number), none()) || !m.Take(release(number), failed(api.ErrHandle)) {
			t.Errorf("Release, %d", number)
		}
	}
	if m.Take(snapshot(), none()) || !m.Take(snapshot(), failed(api.ErrSlot)) || !m.Take(snapshot(), failed(api.ErrStamp)) || len(m.Handles()) != 0 {
		t.Error("Snapshot")
	}
	if m.Take(release(3), failed(api.ErrStale)) || m.Take(collect(), failed(api.ErrMemory)) || m.Take(get(3), failed(api.ErrMemory)) {
		t.Error("errors that they may not tell")
	}
}

// draw is an operation of a small store.
func draw(r *rand.Rand) api.Op {
	n := func(below int) uint64 { return uint64(r.Intn(below)) }
	op := api.Op{Kind: api.OpKind(1 + n(10)), Key: n(5), Value: n(3), Old: n(3), Handle: n(4), Lo: n(5), Hi: n(6)}
	for range r.Intn(5) {
		op.Keys = append(op.Keys, n(5))
	}
	return op
}

// P6.2, P6.4, P6.6: long ways, held against the naive store, and the pictures against Content at their Snapshots.
func TestLongWays(t *testing.T) {
	for seed := range int64(30) {
		r := rand.New(rand.NewSource(seed))
		m, n := newModel(t, 3), naive{multi: 3}
		kept := map[uint64][]api.Pair{}
		for range 300 {
			op, handle := draw(r), uint64(1+r.Intn(3))
			before := m.Content()
			fork := m.Fork()
			told := m.Do(op, handle)
			may, next := n.next(op, told)
			if !may || !fork.Take(op, told) || !fork.Same(m) {
				t.Fatalf("seed %d: %v told %v", seed, op, told)
			}
			n = next
			if op.Kind == api.Snapshot && told.Errno == api.OK {
				kept[told.Handle] = before
			}
			if op.Kind == api.Release {
				delete(kept, op.Handle)
			}
			for h, pairs := range kept {
				if l, holds := m.Held(h); !holds || !slices.Equal(l, pairs) {
					t.Fatalf("seed %d: behind %v the handle %d holds %v, not %v", seed, op, h, l, pairs)
				}
			}
			checkModel(t, m, n)
		}
	}
}

// P6.7.
func TestOtherKeysInAnotherOrder(t *testing.T) {
	some := []api.Op{put(1, 1), remove(1), swap(1, 1, 2), swap(1, 0, 3), get(1)}
	others := []api.Op{put(2, 1), remove(2), swap(2, 1, 2), get(2), snapshot(), collect(), count(1, 0, 9)}
	starts := [][]api.Op{{}, {put(1, 1)}, {put(1, 0), put(2, 1)}, {put(3, 1), put(2, 2)}}
	for _, start := range starts {
		for _, a := range some {
			for _, b := range others {
				m := newModel(t, 1)
				for _, op := range start {
					m.Do(op, 1)
				}
				n := m.Fork()
				m.Do(a, 1)
				m.Do(b, 1)
				n.Do(b, 1)
				n.Do(a, 1)
				if !slices.Equal(m.Content(), n.Content()) {
					t.Errorf("%v and %v: %v, or %v", a, b, m.Content(), n.Content())
				}
			}
		}
	}
}
