package model_test

import (
	"math"
	"slices"
	"testing"

	"shutter/api"
	"shutter/model"
)

// Operations, in short.
func get(key uint64) api.Op            { return api.Op{Kind: api.Get, Key: key} }
func put(key, value uint64) api.Op     { return api.Op{Kind: api.Put, Key: key, Value: value} }
func remove(key uint64) api.Op         { return api.Op{Kind: api.Delete, Key: key} }
func swap(key, old, new uint64) api.Op { return api.Op{Kind: api.Swap, Key: key, Old: old, Value: new} }
func snapshot() api.Op                 { return api.Op{Kind: api.Snapshot} }
func release(handle uint64) api.Op     { return api.Op{Kind: api.Release, Handle: handle} }
func collect() api.Op                  { return api.Op{Kind: api.Collect} }
func multiGet(handle uint64, keys ...uint64) api.Op {
	return api.Op{Kind: api.MultiGet, Handle: handle, Keys: keys}
}
func inRange(handle, lo, hi uint64) api.Op {
	return api.Op{Kind: api.Range, Handle: handle, Lo: lo, Hi: hi}
}
func count(handle, lo, hi uint64) api.Op {
	return api.Op{Kind: api.Count, Handle: handle, Lo: lo, Hi: hi}
}

// pairs are key, value, key, value, ..
func pairs(numbers ...uint64) []api.Pair {
	var l []api.Pair
	for i := 0; i+1 < len(numbers); i += 2 {
		l = append(l, api.Pair{Key: numbers[i], Value: numbers[i+1]})
	}
	return l
}

func none() api.Answer                  { return api.Answer{} }
func found(value uint64) api.Answer     { return api.Answer{Found: true, Value: value} }
func failed(errno api.Errno) api.Answer { return api.Answer{Errno: errno} }

func newModel(t *testing.T, multi int) *model.Model {
	t.Helper()
	m, errno := model.New(multi)
	if m == nil || errno != api.OK {
		t.Fatalf("New(%d): %d", multi, errno)
	}
	return m
}

// do tells where an operation tells something else than it should.
func do(t *testing.T, m *model.Model, op api.Op, handle uint64, want api.Answer) {
	t.Helper()
	if got := m.Do(op, handle); !same(got, want) {
		t.Errorf("%v, with the handle %d: %v, not %v", op, handle, got, want)
	}
}

// checkModel tells where a model is not as the naive store is.
func checkModel(t *testing.T, m *model.Model, n naive) {
	t.Helper()
	if got := m.Content(); !slices.Equal(got, n.now) {
		t.Errorf("Content: %v, not %v", got, n.now)
	}
	var handles []uint64
	for _, p := range n.pictures {
		handles = append(handles, p.handle)
		if got, holds := m.Held(p.handle); !holds || !slices.Equal(got, p.pairs) {
			t.Errorf("Held(%d): %v, %v, not %v", p.handle, got, holds, p.pairs)
		}
	}
	if got := m.Handles(); !slices.Equal(got, handles) {
		t.Errorf("Handles: %v, not %v", got, handles)
	}
}

// P6.1.
func TestNew(t *testing.T) {
	for _, multi := range []int{1, 2, 4, api.MaxMulti - 1, api.MaxMulti} {
		checkModel(t, newModel(t, multi), naive{})
	}
	for _, multi := range []int{0, -1, math.MinInt, api.MaxMulti + 1, math.MaxInt} {
		if m, errno := model.New(multi); m != nil || errno != api.ErrRange {
			t.Errorf("New(%d): %v, %d", multi, m, errno)
		}
	}
}

// P6.2, chapter's examples.
func TestExamples(t *testing.T) {
	m := newModel(t, 1)
	do(t, m, put(7, 1), 0, none())
	do(t, m, put(7, 2), 0, found(1))
	do(t, m, snapshot(), 5, api.Answer{Handle: 5})
	do(t, m, remove(7), 0, found(2))
	if l, holds := m.Held(5); !holds || !slices.Equal(l, pairs(7, 2)) {
		t.Error(l, holds)
	}
	do(t, m, inRange(5, 0, 100), 0, api.Answer{Pairs: pairs(7, 2)})
	do(t, m, get(7), 0, none())
	do(t, m, release(5), 0, none())
	do(t, m, release(5), 0, failed(api.ErrHandle))
	do(t, m, count(5, 0, 100), 0, failed(api.ErrHandle))
	if !m.Take(count(5, 0, 100), failed(api.ErrHandle)) || !m.Take(count(5, 0, 100), failed(api.ErrStale)) {
		t.Error("Count of what does not hold may tell either")
	}
	do(t, m, multiGet(9, 1, 2), 0, failed(api.ErrLong))
	do(t, m, swap(7, 1, 5), 0, none())
}

// P6.2, DOC.md's examples 1, 2, 3, 5.
func TestExamplesOfTheWhole(t *testing.T) {
	m := newModel(t, 4)
	do(t, m, get(7), 0, none())
	do(t, m, swap(7, 1, 5), 0, none())
	do(t, m, put(7, 1), 0, none())
	do(t, m, swap(7, 1, 5), 0, api.Answer{Found: true, Value: 1, Done: true})
	do(t, m, swap(7, 1, 5), 0, found(5))
	do(t, m, remove(7), 0, found(5))
	do(t, m, remove(7), 0, none())
	do(t, m, put(7, 1), 0, none())
	do(t, m, snapshot(), 1, api.Answer{Handle: 1})
	do(t, m, put(7, 2), 0, found(1))
	do(t, m, put(8, 3), 0, none())
	do(t, m, inRange(1, 0, 100), 0, api.Answer{Pairs: pairs(7, 1)})
	do(t, m, get(7), 0, found(2))
	do(t, m, multiGet(1, 1, 2, 3, 4, 5), 0, failed(api.ErrLong))
	do(t, m, multiGet(1, 9, 7, 7), 0, api.Answer{Pairs: pairs(7, 1, 7, 1)})
	do(t, m, inRange(1, 5, 3), 0, none())
	do(t, m, count(1, 0, math.MaxUint64), 0, api.Answer{Count: 1})
}

// P6.2: keys and values at the ends of the numbers, and both ends of a range.
func TestEndsOfNumbers(t *testing.T) {
	const last = math.MaxUint64
	m := newModel(t, 2)
	do(t, m, put(last, last), 0, none())
	do(t, m, put(0, 0), 0, none())
	do(t, m, get(0), 0, found(0))
	do(t, m, swap(0, 0, last), 0, api.Answer{Found: true, Done: true})
	do(t, m, put(5, 6), 0, none())
	do(t, m, snapshot(), last, api.Answer{Handle: last})
	do(t, m, inRange(last, 0, last), 0, api.Answer{Pairs: pairs(0, last, 5, 6, last, last)})
	do(t, m, inRange(last, 5, 5), 0, api.Answer{Pairs: pairs(5, 6)})
	do(t, m, inRange(last, 6, last), 0, api.Answer{Pairs: pairs(last, last)})
	do(t, m, inRange(last, 0, 4), 0, api.Answer{Pairs: pairs(0, last)})
	do(t, m, inRange(last, last, 0), 0, none())
	do(t, m, count(last, 0, 5), 0, api.Answer{Count: 2})
	do(t, m, count(last, 1, last), 0, api.Answer{Count: 2})
	do(t, m, count(last, 6, 5), 0, none())
	do(t, m, multiGet(last, last, 0), 0, api.Answer{Pairs: pairs(last, last, 0, last)})
}

// P6.2.
func TestHandles(t *testing.T) {
	m := newModel(t, 1)
	do(t, m, put(1, 1), 0, none())
	do(t, m, snapshot(), 0, none())
	if _, holds := m.Held(0); holds || len(m.Handles()) != 0 {
		t.Error("the handle 0 holds")
	}
	do(t, m, release(0), 0, failed(api.ErrHandle))
	do(t, m, count(0, 0, 9), 0, failed(api.ErrHandle))
	do(t, m, snapshot(), 9, api.Answer{Handle: 9})
	do(t, m, put(1, 2), 0, found(1))
	do(t, m, snapshot(), 9, failed(api.ErrSlot))
	do(t, m, inRange(9, 0, 9), 0, api.Answer{Pairs: pairs(1, 1)})
	do(t, m, snapshot(), 3, api.Answer{Handle: 3})
	checkModel(t, m, naive{now: pairs(1, 2), pictures: []picture{{3, pairs(1, 2)}, {9, pairs(1, 1)}}})
	do(t, m, release(9), 0, none())
	do(t, m, multiGet(9, 1), 0, failed(api.ErrHandle))
	do(t, m, snapshot(), 9, api.Answer{Handle: 9})
	checkModel(t, m, naive{now: pairs(1, 2), pictures: []picture{{3, pairs(1, 2)}, {9, pairs(1, 2)}}})
	if l, holds := m.Held(4); holds || len(l) != 0 {
		t.Error("Held(4):", l, holds)
	}
}

// P6.1, P6.2: a MultiGet of just as many keys as the model takes, and of one more.
func TestMultiGet(t *testing.T) {
	for _, multi := range []int{1, 3, api.MaxMulti} {
		m := newModel(t, multi)
		do(t, m, put(5, 6), 0, none())
		do(t, m, snapshot(), 1, api.Answer{Handle: 1})
		keys := make([]uint64, multi+1)
		keys[multi-1] = 5
		do(t, m, multiGet(1, keys[:multi]...), 0, api.Answer{Pairs: pairs(5, 6)})
		do(t, m, multiGet(2, keys[:multi]...), 0, failed(api.ErrHandle))
		do(t, m, multiGet(1, keys...), 0, failed(api.ErrLong))
		do(t, m, multiGet(2, keys...), 0, failed(api.ErrLong))
		do(t, m, multiGet(1), 0, none())
		if m.Take(multiGet(2, keys...), failed(api.ErrHandle)) || m.Take(multiGet(2, keys...), failed(api.ErrStale)) {
			t.Error("of too many keys ErrLong alone is told")
		}
		if !m.Take(multiGet(2, keys...), failed(api.ErrLong)) || m.Take(multiGet(2, keys[:multi]...), failed(api.ErrLong)) {
			t.Error("ErrLong of", multi)
		}
	}
}

// P6.1, P6.2.
func TestKindsThatAreNone(t *testing.T) {
	m := newModel(t, 1)
	do(t, m, put(7, 1), 0, none())
	do(t, m, snapshot(), 1, api.Answer{Handle: 1})
	want := m.Fork()
	for kind := range 256 {
		if kind >= int(api.Get) && kind <= int(api.Collect) {
			continue
		}
		op := api.Op{Kind: api.OpKind(kind), Key: 7, Value: 2, Old: 1, Handle: 1, Keys: []uint64{7, 7}, Hi: 9}
		do(t, m, op, 2, failed(api.ErrOp))
		if !m.Take(op, failed(api.ErrOp)) || m.Take(op, none()) || m.Take(op, found(1)) || m.Take(op, failed(api.ErrLong)) {
			t.Errorf("Take of the kind %d", kind)
		}
	}
	if !m.Same(want) {
		t.Error("something was done")
	}
}

// P6.1: a Ref plays no part, nor do fields that the kind does not name, nor the handle that is handed in to Do.
func TestFieldsThatAreNotNamed(t *testing.T) {
	full := api.Op{Key: 7, Value: 2, Old: 1, Handle: 4, Ref: api.Ref{Set: true, Thread: 3, Index: 8}, Keys: []uint64{7, 8}, Lo: 1, Hi: 9}
	for kind := api.Get; kind <= api.Collect; kind++ {
		a, b := newModel(t, 2), newModel(t, 2)
		for _, m := range []*model.Model{a, b} {
			do(t, m, put(7, 1), 0, none())
			do(t, m, snapshot(), 4, api.Answer{Handle: 4})
		}
		op := full
		op.Kind = kind
		if x, y := a.Do(op, 5), b.Do(named(op), 5); !same(x, y) || !a.Same(b) {
			t.Errorf("%v tells %v, its named fields alone %v", op, x, y)
		}
		if kind != api.Snapshot && !same(a.Do(op, 4), b.Do(op, 9)) {
			t.Errorf("%v leans on the handle", op)
		}
	}
}

// named has those fields alone that the kind names.
func named(op api.Op) api.Op {
	short := api.Op{Kind: op.Kind}
	switch op.Kind {
	case api.Get, api.Delete:
		short.Key = op.Key
	case api.Put:
		short.Key, short.Value = op.Key, op.Value
	case api.Swap:
		short.Key, short.Value, short.Old = op.Key, op.Value, op.Old
	case api.Release:
		short.Handle = op.Handle
	case api.MultiGet:
		short.Handle, short.Keys = op.Handle, op.Keys
	case api.Range, api.Count:
		short.Handle, short.Lo, short.Hi = op.Handle, op.Lo, op.Hi
	}
	return short
}

// P6.1, P6.2, P6.3: of a nil model.
func TestNil(t *testing.T) {
	var m *model.Model
	for kind := api.OpKind(0); kind < 13; kind++ {
		op := api.Op{Kind: kind}
		if got := m.Do(op, 1); !same(got, failed(api.ErrNil)) {
			t.Errorf("Do(%v): %v", op, got)
		}
		if m.Take(op, none()) || m.Take(op, failed(api.ErrNil)) || m.Take(op, failed(api.ErrOp)) {
			t.Errorf("Take(%v)", op)
		}
	}
	if l, holds := m.Held(1); holds || len(l) != 0 || len(m.Content()) != 0 || len(m.Handles()) != 0 || m.Fork() != nil {
		t.Error("zero values")
	}
	some := newModel(t, 1)
	if !m.Same(nil) || m.Same(some) || some.Same(nil) {
		t.Error("Same")
	}
}

// P6.3.
func TestSame(t *testing.T) {
	build := func(multi int, ops ...api.Op) *model.Model {
		m := newModel(t, multi)
		for i, op := range ops {
			m.Do(op, uint64(i))
		}
		return m
	}
	all := []*model.Model{
		build(1), build(2),
		build(1, put(7, 1)), build(1, put(7, 2)), build(1, put(8, 1)), build(1, put(0, 0)), build(1, put(7, 1), put(8, 1)),
		build(1, put(7, 1), snapshot()),
		build(1, put(7, 1), put(7, 1), snapshot()),
		build(1, put(7, 2), snapshot(), put(7, 1)),
		build(1, put(7, 1), snapshot(), snapshot()),
		build(1, get(1), snapshot(), put(7, 1)),
	}
	for i, m := range all {
		for j, n := range all {
			if m.Same(n) != (i == j) {
				t.Errorf("Same of %d and %d", i, j)
			}
		}
		if f := m.Fork(); !f.Same(m) || !m.Same(f) {
			t.Errorf("Same of %d and its Fork", i)
		}
	}
	if !build(1, put(7, 1), put(8, 2), remove(8)).Same(build(1, put(7, 3), swap(7, 3, 1))) {
		t.Error("Same of what was come by in two ways")
	}
	if !build(1, put(7, 1), snapshot(), release(1)).Same(build(1, put(7, 1))) {
		t.Error("Same behind a Release")
	}
}

// P6.3.
func TestSameAnswer(t *testing.T) {
	full := api.Answer{Errno: 1, Found: true, Value: 2, Done: true, Handle: 3, Pairs: pairs(1, 2, 3, 4), Count: 5}
	others := []func(*api.Answer){
		func(a *api.Answer) { a.Errno = 2 },
		func(a *api.Answer) { a.Found = false },
		func(a *api.Answer) { a.Value = 3 },
		func(a *api.Answer) { a.Done = false },
		func(a *api.Answer) { a.Handle = 4 },
		func(a *api.Answer) { a.Pairs = nil },
		func(a *api.Answer) { a.Pairs = pairs(1, 2) },
		func(a *api.Answer) { a.Pairs = pairs(1, 2, 3, 5) },
		func(a *api.Answer) { a.Pairs = pairs(3, 4, 1, 2) },
		func(a *api.Answer) { a.Pairs = pairs(1, 2, 3, 4, 5, 6) },
		func(a *api.Answer) { a.Count = 6 },
	}
	again := full
	again.Pairs = slices.Clone(full.Pairs)
	if !model.SameAnswer(full, again) || !model.SameAnswer(none(), none()) {
		t.Error("the same are not the same")
	}
	for i, change := range others {
		other := full
		change(&other)
		if model.SameAnswer(full, other) || model.SameAnswer(other, full) || !model.SameAnswer(other, other) {
			t.Errorf("the change %d is not seen", i)
		}
	}
	if !model.SameAnswer(api.Answer{Pairs: []api.Pair{}}, none()) || !model.SameAnswer(none(), api.Answer{Pairs: []api.Pair{}}) {
		t.Error("an empty list is as nil")
	}
}

// P6.1: an empty list in an answer is as nil to Take, too.
func TestTakeOfEmptyLists(t *testing.T) {
	m := newModel(t, 1)
	empty := []api.Pair{}
	if !m.Take(put(7, 1), api.Answer{Pairs: empty}) || !m.Take(put(8, 1), api.Answer{Errno: api.ErrMemory, Pairs: empty}) {
		t.Error("Put")
	}
	if !m.Take(snapshot(), api.Answer{Handle: 2, Pairs: empty}) || !m.Take(inRange(2, 8, 9), api.Answer{Pairs: empty}) || !m.Take(collect(), api.Answer{Count: 3, Pairs: empty}) {
		t.Error("others")
	}
	checkModel(t, m, naive{now: pairs(7, 1), pictures: []picture{{2, pairs(7, 1)}}})
}

// P3 of the document's rules.
func TestListsAreTheCallers(t *testing.T) {
	m := newModel(t, 4)
	do(t, m, put(7, 1), 0, none())
	do(t, m, put(8, 2), 0, none())
	do(t, m, snapshot(), 3, api.Answer{Handle: 3})
	keys := []uint64{8, 7, 99, 98}
	op := multiGet(3, keys[:2]...)
	told := m.Do(op, 0)
	content := m.Content()
	held, _ := m.Held(3)
	handles := m.Handles()
	ranged := m.Do(inRange(3, 0, 9), 0)
	for _, l := range [][]api.Pair{told.Pairs, content, held, ranged.Pairs} {
		l[0] = api.Pair{Key: 77, Value: 77}
	}
	handles[0] = 77
	if !slices.Equal(keys, []uint64{8, 7, 99, 98}) {
		t.Error("the keys have changed:", keys)
	}
	keys[0] = 5
	checkModel(t, m, naive{now: pairs(7, 1, 8, 2), pictures: []picture{{3, pairs(7, 1, 8, 2)}}})
	answer := api.Answer{Pairs: pairs(7, 1, 8, 2, 9, 9)[:2]}
	if !m.Take(inRange(3, 0, 9), answer) || !slices.Equal(answer.Pairs[:3], pairs(7, 1, 8, 2, 9, 9)) {
		t.Error("Take")
	}
}

// P4 of the document's rules.
func TestFork(t *testing.T) {
	m := newModel(t, 2)
	do(t, m, put(7, 1), 0, none())
	do(t, m, snapshot(), 3, api.Answer{Handle: 3})
	f := m.Fork()
	do(t, f, put(7, 2), 0, found(1))
	do(t, f, put(9, 9), 0, none())
	do(t, f, release(3), 0, none())
	do(t, f, snapshot(), 4, api.Answer{Handle: 4})
	checkModel(t, m, naive{now: pairs(7, 1), pictures: []picture{{3, pairs(7, 1)}}})
	do(t, m, remove(7), 0, found(1))
	do(t, m, snapshot(), 4, api.Answer{Handle: 4})
	checkModel(t, f, naive{now: pairs(7, 2, 9, 9), pictures: []picture{{4, pairs(7, 2, 9, 9)}}})
	do(t, f, multiGet(4, 1, 2, 3), 0, failed(api.ErrLong))
	do(t, f, multiGet(4, 1, 7), 0, api.Answer{Pairs: pairs(7, 2)})
}
