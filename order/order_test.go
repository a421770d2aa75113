package order_test

import (
	"fmt"
	"math"
	"reflect"
	"slices"
	"strings"
	"testing"

	"shutter/api"
	"shutter/arena"
	"shutter/camera"
	"shutter/order"
	"shutter/step"
)

const greatest = math.MaxUint64

// Where the list of most tests lies, and the first cell behind it.
const (
	clock = 1
	head  = 2
	free  = 3
)

var list = api.Tree{Camera: clock, Root: head}

// newList is a memory with a camera at the stamp 1, an empty list, and so many cells left behind them; if they are fewer than a memory has, the first of these stand empty.
func newList(t *testing.T, left int) *arena.Memory {
	t.Helper()
	m, errno := arena.New(max(free+left, api.MinCells), false)
	if errno != api.OK {
		t.Fatal(errno)
	}
	m.View(9).Alloc([]uint64{1})
	if got, errno := order.Make(m.View(9), clock); got != list || errno != api.OK {
		t.Fatal(got, errno)
	}
	fill(m, left)
	return m
}

// fill lets a memory have so many cells left.
func fill(m *arena.Memory, left int) {
	if more := m.Left() - left; more > 0 {
		m.View(9).Alloc(make([]uint64, more))
	}
}

func getOp(key uint64) api.Op        { return api.Op{Kind: api.Get, Key: key} }
func putOp(key, value uint64) api.Op { return api.Op{Kind: api.Put, Key: key, Value: value} }
func deleteOp(key uint64) api.Op     { return api.Op{Kind: api.Delete, Key: key} }
func swapOp(key, old, now uint64) api.Op {
	return api.Op{Kind: api.Swap, Key: key, Old: old, Value: now}
}

func found(value uint64) api.Answer     { return api.Answer{Found: true, Value: value} }
func swapped(value uint64) api.Answer   { return api.Answer{Found: true, Value: value, Done: true} }
func failed(errno api.Errno) api.Answer { return api.Answer{Errno: errno} }

// pairs are keys and values in turn.
func pairs(numbers ...uint64) []api.Pair {
	var l []api.Pair
	for pair := range slices.Chunk(numbers, 2) {
		l = append(l, api.Pair{Key: pair[0], Value: pair[1]})
	}
	return l
}

// alone does procs to their ends, one behind the other.
func alone(t *testing.T, m *arena.Memory, procs ...step.Proc) {
	t.Helper()
	for _, p := range procs {
		if !step.Alone(m.View(9), p, 5000) {
			t.Fatalf("%T is not done", p)
		}
	}
}

// do does an operation to its end.
func do(t *testing.T, m *arena.Memory, op api.Op) api.Answer {
	t.Helper()
	p := order.NewOp(list, op)
	alone(t, m, p)
	return p.Answer()
}

// lay puts keys in, each with 10 times itself.
func lay(t *testing.T, m *arena.Memory, keys ...uint64) {
	t.Helper()
	for _, key := range keys {
		if a := do(t, m, putOp(key, 10*key)); !reflect.DeepEqual(a, api.Answer{}) {
			t.Fatal(key, a)
		}
	}
}

// picture takes one, and tells its stamp.
func picture(t *testing.T, m *arena.Memory) uint64 {
	t.Helper()
	p := camera.NewTake(clock, 1000)
	alone(t, m, p)
	return p.Stamp()
}

// made is the accesses of a memory's trace behind the first so many, as a text.
func made(m *arena.Memory, from int) string {
	var l []string
	for _, a := range m.Trace()[from:] {
		switch a.Kind {
		case api.Load:
			l = append(l, fmt.Sprintf("Load %d: %d", a.Addr, a.Got))
		case api.Store:
			l = append(l, fmt.Sprintf("Store %d %d", a.Addr, a.A))
		case api.Cas:
			l = append(l, fmt.Sprintf("Cas %d %d %d: %t", a.Addr, a.A, a.B, a.Ok))
		case api.Alloc:
			l = append(l, fmt.Sprintf("Alloc %d: %d", a.Values, a.Addr))
		default:
			l = append(l, fmt.Sprintf("%+v", a))
		}
	}
	return strings.Join(l, ", ")
}

// told is what a proc tells.
type told struct {
	answer api.Answer
	pair   api.Pair
	known  bool
	errno  api.Errno
	pairs  []api.Pair
	count  int
}

// toldOf is what a proc of the package tells.
func toldOf(p step.Proc) told {
	switch x := p.(type) {
	case *order.Op:
		return told{answer: x.Answer()}
	case *order.Seek:
		pair, known := x.Pair()
		return told{pair: pair, known: known, errno: x.Errno()}
	case *order.Rows:
		return told{pairs: x.Pairs()}
	case *order.Rank:
		return told{count: x.Count()}
	}
	return told{}
}

func ofPair(key, value uint64) told { return told{pair: api.Pair{Key: key, Value: value}, known: true} }

// check lets a proc go to its end, and on: its accesses are those, one a step (none: it is done by one step without any); it tells nothing ahead of its end, and the same from then on.
func check(t *testing.T, m *arena.Memory, p step.Proc, want told, accesses string) {
	t.Helper()
	from, count := m.Made(), 0
	if accesses != "" {
		count = strings.Count(accesses, ", ") + 1
	}
	steps := max(count, 1)
	for i := range steps + 3 {
		if i < steps && !reflect.DeepEqual(toldOf(p), told{}) {
			t.Errorf("ahead of the step %d it tells %+v", i, toldOf(p))
		}
		if done := p.Step(m.View(0)); done != (i >= steps-1) {
			t.Errorf("step %d: done %t", i, done)
		}
		if n := m.Made() - from; n != min(i+1, count) {
			t.Errorf("step %d: %d accesses", i, n)
		}
	}
	if got := toldOf(p); !reflect.DeepEqual(got, want) {
		t.Errorf("it tells %+v, not %+v", got, want)
	}
	if got := made(m, from); got != accesses {
		t.Errorf("accesses: %s\nnot: %s", got, accesses)
	}
}

func checkOp(t *testing.T, m *arena.Memory, op api.Op, want api.Answer, accesses string) {
	t.Helper()
	check(t, m, order.NewOp(list, op), told{answer: want}, accesses)
}

// checkList checks what is there, and how many nodes are linked.
func checkList(t *testing.T, m *arena.Memory, linked int, want ...api.Pair) {
	t.Helper()
	if l := order.Pairs(m, list); !slices.Equal(l, want) {
		t.Errorf("there is %v, not %v", l, want)
	}
	if n := order.Linked(m, list); n != linked {
		t.Errorf("%d are linked, not %d", n, linked)
	}
}

// The chapter's examples.
func TestExamples(t *testing.T) {
	m := newList(t, 200)
	checkOp(t, m, putOp(7, 1), api.Answer{}, "Load 2: 0, Alloc [0 1 0]: 3, Alloc [7 1 3]: 6, Load 2: 0, Alloc [12 0 0]: 9, Cas 2 0 9: true, Load 10: 0, Load 1: 1, Cas 10 0 1: true")
	checkOp(t, m, getOp(7), found(1), "Load 2: 9, Load 10: 1, Load 9: 12, Load 8: 3, Load 4: 1, Load 3: 0, Load 6: 7, Load 7: 1")
	check(t, m, order.NewSeek(list, order.First, 99), ofPair(7, 1), "Load 2: 9, Load 10: 1, Load 9: 12, Load 8: 3, Load 4: 1, Load 3: 0, Load 6: 7, Load 7: 1")
	check(t, m, order.NewSeek(list, order.After, 7), told{}, "Load 2: 9, Load 10: 1, Load 9: 12, Load 8: 3, Load 4: 1, Load 3: 0, Load 6: 7")
	check(t, m, order.NewSeek(list, order.Before, 7), told{}, "Load 2: 9, Load 10: 1, Load 9: 12, Load 8: 3, Load 4: 1, Load 3: 0, Load 6: 7")

	m = newList(t, 200)
	do(t, m, putOp(7, 1))
	do(t, m, putOp(5, 2))
	if a := do(t, m, putOp(7, 3)); !reflect.DeepEqual(a, found(1)) {
		t.Error(a)
	}
	checkList(t, m, 3, pairs(5, 2, 7, 3)...)
	s := order.NewSeek(list, order.Last, 0)
	alone(t, m, s)
	if !reflect.DeepEqual(toldOf(s), ofPair(7, 3)) {
		t.Error(toldOf(s))
	}
	checkList(t, m, 2, pairs(5, 2, 7, 3)...)
	if a := do(t, m, deleteOp(5)); !reflect.DeepEqual(a, found(2)) {
		t.Error(a)
	}
	checkList(t, m, 2, pairs(7, 3)...)

	m = newList(t, 200)
	do(t, m, putOp(7, 1))
	if stamp := picture(t, m); stamp != 1 {
		t.Error(stamp)
	}
	do(t, m, putOp(7, 2))
	do(t, m, putOp(9, 3))
	one, two, rank := order.NewRows(list, 1, 0, 10), order.NewRows(list, 2, 0, 10), order.NewRank(list, 2, 9)
	alone(t, m, one, two, rank)
	if !slices.Equal(one.Pairs(), pairs(7, 1)) || !slices.Equal(two.Pairs(), pairs(7, 2, 9, 3)) || rank.Count() != 1 {
		t.Error(one.Pairs(), two.Pairs(), rank.Count())
	}
}

// P30.1: operations, access by access, on a list of 5 and 9.
func TestOpAccesses(t *testing.T) {
	first := newList(t, 200)
	lay(t, first, 5, 9)
	// The head's version at 9, 5's node at 6 with its version at 3 and then at 18; 9's node at 15 with its version at 12.
	toHead := "Load 2: 9, Load 10: 1, Load 9: 12, "
	to5 := toHead + "Load 8: 18, Load 19: 1, Load 18: 30, Load 6: 5, "
	to9 := to5 + "Load 17: 12, Load 13: 1, Load 12: 0, Load 15: 9"
	checkOp(t, first.Fork(), getOp(7), api.Answer{}, to9)
	checkOp(t, first.Fork(), getOp(9), found(90), to9+", Load 16: 90")
	checkOp(t, first.Fork(), getOp(10), api.Answer{}, to9)
	checkOp(t, first.Fork(), deleteOp(7), api.Answer{}, to9)
	checkOp(t, first.Fork(), swapOp(7, 0, 1), api.Answer{}, to9)
	checkOp(t, first.Fork(), swapOp(9, 91, 1), found(90), to9+", Load 16: 90")
	tell := func(version int) string {
		return fmt.Sprintf("Load %d: 0, Load 1: 1, Cas %d 0 1: true", version+1, version+1)
	}
	m := first.Fork()
	checkOp(t, m, deleteOp(9), found(90), to9+", Load 16: 90, Load 17: 12, Load 13: 1, Load 12: 0, Alloc [1 0 12]: 21, Cas 17 12 21: true, "+tell(21))
	checkList(t, m, 2, pairs(5, 50)...)
	// Whoever comes by takes it out.
	checkOp(t, m, getOp(9), api.Answer{}, to5+"Load 17: 21, Load 22: 1, Load 21: 1, Load 8: 18, Load 19: 1, Load 18: 30, Alloc [0 0 18]: 24, Cas 8 18 24: true, "+tell(24))
	checkList(t, m, 1, pairs(5, 50)...)
	m = first.Fork()
	checkOp(t, m, putOp(7, 1), api.Answer{}, to9+", Alloc [30 1 0]: 21, Alloc [7 1 21]: 24, Load 8: 18, Load 19: 1, Load 18: 30, Alloc [48 0 18]: 27, Cas 8 18 27: true, "+tell(27))
	checkList(t, m, 3, pairs(5, 50, 7, 1, 9, 90)...)
	m = first.Fork()
	checkOp(t, m, putOp(9, 1), found(90), to9+", Load 16: 90, Alloc [0 1 0]: 21, Alloc [9 1 21]: 24, Load 17: 12, Load 13: 1, Load 12: 0, Alloc [49 0 12]: 27, Cas 17 12 27: true, "+tell(27))
	checkList(t, m, 3, pairs(5, 50, 9, 1)...)
	m = first.Fork()
	checkOp(t, m, swapOp(9, 90, 1), swapped(90), to9+", Load 16: 90, Alloc [0 1 0]: 21, Alloc [9 1 21]: 24, Load 17: 12, Load 13: 1, Load 12: 0, Alloc [49 0 12]: 27, Cas 17 12 27: true, "+tell(27))
	checkList(t, m, 3, pairs(5, 50, 9, 1)...)
}

// P30.1: the nodes that a search takes out, one behind the other, at the beginning and amid the list.
func TestTakesOut(t *testing.T) {
	for _, deleted := range [][]uint64{{1}, {4}, {1, 2}, {2, 3}, {3, 4}, {1, 3}, {1, 2, 3, 4}} {
		m := newList(t, 400)
		lay(t, m, 1, 2, 3, 4)
		var want []api.Pair
		for key := range uint64(5) {
			if slices.Contains(deleted, key) {
				do(t, m, deleteOp(key))
			} else if key > 0 {
				want = append(want, api.Pair{Key: key, Value: 10 * key})
			}
		}
		// Deleted ones have been taken out by those Deletes that came by behind.
		alone(t, m, order.NewSeek(list, order.Last, 0))
		checkList(t, m, len(want), want...)
	}
	// A search takes none out behind the key.
	m := newList(t, 400)
	lay(t, m, 1, 2, 3)
	do(t, m, deleteOp(3))
	do(t, m, deleteOp(1))
	checkList(t, m, 3, pairs(2, 20)...)
	if a := do(t, m, getOp(2)); !reflect.DeepEqual(a, found(20)) {
		t.Error(a)
	}
	checkList(t, m, 2, pairs(2, 20)...)
}

// until lets a proc take so many steps, by which it is not done.
func until(t *testing.T, m *arena.Memory, p step.Proc, steps int) {
	t.Helper()
	if step.Alone(m.View(0), p, steps) {
		t.Fatal("done too early")
	}
}

// P30.1: a Put that has to begin anew uses the node that it made, with another link.
func TestPutAnew(t *testing.T) {
	m := newList(t, 200)
	p := order.NewOp(list, putOp(7, 1))
	until(t, m, p, 5) // Its next access is the Cas of the head.
	lay(t, m, 9)      // The version at 12, the node at 15, the head's version at 18.
	from := m.Made()
	alone(t, m, p)
	want := "Cas 2 0 9: false, Load 2: 18, Load 19: 1, Load 2: 18, Load 19: 1, Load 18: 30, Load 17: 12, Load 13: 1, Load 12: 0, Load 15: 9, Store 3 30, Load 2: 18, Load 19: 1, Load 18: 30, Alloc [12 0 18]: 21, Cas 2 18 21: true, Load 22: 0, Load 1: 1, Cas 22 0 1: true"
	if got := made(m, from); got != want {
		t.Errorf("%s\nnot: %s", got, want)
	}
	if !reflect.DeepEqual(p.Answer(), api.Answer{}) {
		t.Error(p.Answer())
	}
	checkList(t, m, 2, pairs(7, 1, 9, 90)...)

	// Another one has put the key in: it is found, and its node is replaced.
	m = newList(t, 200)
	p = order.NewOp(list, putOp(7, 1))
	until(t, m, p, 5)
	lay(t, m, 7)
	alone(t, m, p)
	if !reflect.DeepEqual(p.Answer(), found(70)) {
		t.Error(p.Answer())
	}
	checkList(t, m, 2, pairs(7, 1)...)

	// It has found the key, and another one takes that away.
	m = newList(t, 200)
	lay(t, m, 7)
	p = order.NewOp(list, putOp(7, 1))
	until(t, m, p, 13)
	do(t, m, deleteOp(7))
	alone(t, m, p)
	if !reflect.DeepEqual(p.Answer(), api.Answer{}) {
		t.Error(p.Answer())
	}
	checkList(t, m, 1, pairs(7, 1)...)
}

// P30.1: Deletes and Swaps that have to begin anew tell how the key is then.
func TestChangeAnew(t *testing.T) {
	for steps := 9; steps < 14; steps++ {
		m := newList(t, 200)
		lay(t, m, 7)
		p := order.NewOp(list, deleteOp(7))
		until(t, m, p, min(steps, 12))
		do(t, m, putOp(7, 1))
		alone(t, m, p)
		if !reflect.DeepEqual(p.Answer(), found(1)) {
			t.Error(steps, p.Answer())
		}
		for _, c := range []struct {
			op   api.Op
			want api.Answer
		}{{putOp(7, 1), found(1)}, {deleteOp(7), api.Answer{}}, {putOp(7, 70), swapped(70)}, {putOp(5, 1), swapped(70)}, {putOp(9, 1), swapped(70)}} {
			m := newList(t, 200)
			lay(t, m, 7)
			p := order.NewOp(list, swapOp(7, 70, 2))
			until(t, m, p, steps)
			do(t, m, c.op)
			alone(t, m, p)
			if !reflect.DeepEqual(p.Answer(), c.want) {
				t.Error(steps, c.op, p.Answer())
			}
		}
	}
}

// P30.1: the keys at the ends of all that may be.
func TestEndsOfKeys(t *testing.T) {
	m := newList(t, 400)
	for _, key := range []uint64{greatest, 0, 1 << 63} {
		if a := do(t, m, putOp(key, key+1)); !reflect.DeepEqual(a, api.Answer{}) {
			t.Error(a)
		}
	}
	checkList(t, m, 3, pairs(0, 1, 1<<63, 1<<63+1, greatest, 0)...)
	for _, key := range []uint64{greatest, 0, 1 << 63} {
		if a := do(t, m, getOp(key)); !reflect.DeepEqual(a, found(key+1)) {
			t.Error(a)
		}
	}
	for _, c := range []struct {
		way  order.Way
		key  uint64
		want told
	}{
		{order.After, 0, ofPair(1<<63, 1<<63+1)},
		{order.After, 1<<63 - 1, ofPair(1<<63, 1<<63+1)},
		{order.After, 1 << 63, ofPair(greatest, 0)},
		{order.After, greatest - 1, ofPair(greatest, 0)},
		{order.After, greatest, told{}},
		{order.Before, 0, told{}},
		{order.Before, 1, ofPair(0, 1)},
		{order.Before, 1 << 63, ofPair(0, 1)},
		{order.Before, 1<<63 + 1, ofPair(1<<63, 1<<63+1)},
		{order.Before, greatest, ofPair(1<<63, 1<<63+1)},
		{order.First, greatest, ofPair(0, 1)},
		{order.Last, 0, ofPair(greatest, 0)},
	} {
		p := order.NewSeek(list, c.way, c.key)
		alone(t, m, p)
		if !reflect.DeepEqual(toldOf(p), c.want) {
			t.Errorf("%d %d: %+v", c.way, c.key, toldOf(p))
		}
	}
}

// P30.1: Seeks access by access, and ways that are none.
func TestSeekAccesses(t *testing.T) {
	m := newList(t, 200)
	for _, way := range []order.Way{order.First, order.Last, order.After, order.Before} {
		check(t, m, order.NewSeek(list, way, 5), told{}, "Load 2: 0")
	}
	lay(t, m, 5, 9)
	toHead := "Load 2: 9, Load 10: 1, Load 9: 12, Load 8: 18, Load 19: 1, Load 18: 30, Load 6: 5"
	to9 := toHead + ", Load 17: 12, Load 13: 1, Load 12: 0, Load 15: 9"
	check(t, m, order.NewSeek(list, order.First, 7), ofPair(5, 50), toHead+", Load 7: 50")
	check(t, m, order.NewSeek(list, order.Last, 7), ofPair(9, 90), to9+", Load 16: 90")
	check(t, m, order.NewSeek(list, order.After, 4), ofPair(5, 50), toHead+", Load 7: 50")
	check(t, m, order.NewSeek(list, order.After, 5), ofPair(9, 90), to9+", Load 16: 90")
	check(t, m, order.NewSeek(list, order.After, 9), told{}, to9)
	check(t, m, order.NewSeek(list, order.After, greatest), told{}, "")
	check(t, m, order.NewSeek(list, order.Before, 0), told{}, toHead)
	check(t, m, order.NewSeek(list, order.Before, 5), told{}, toHead)
	check(t, m, order.NewSeek(list, order.Before, 6), ofPair(5, 50), to9+", Load 7: 50")
	check(t, m, order.NewSeek(list, order.Before, greatest), ofPair(9, 90), to9+", Load 16: 90")
	for _, way := range []order.Way{0, 5, 255} {
		check(t, m, order.NewSeek(list, way, 5), told{}, "")
	}
	if order.After != 1 || order.Before != 2 || order.First != 3 || order.Last != 4 {
		t.Error("other numbers")
	}
}

// P30.1: an operation of another kind does nothing, in one step; its error is not told ahead of that.
func TestNoOp(t *testing.T) {
	m := newList(t, 200)
	lay(t, m, 5)
	for _, kind := range []api.OpKind{0, api.Snapshot, api.Release, api.MultiGet, api.Range, api.Count, api.Collect, 11, 255} {
		checkOp(t, m, api.Op{Kind: kind, Key: 5, Keys: []uint64{5}}, failed(api.ErrOp), "")
		if p := order.NewOp(list, api.Op{Kind: kind}); !p.Step(nil) || p.Answer().Errno != api.ErrOp {
			t.Error(kind, p.Answer())
		}
	}
	checkList(t, m, 1, pairs(5, 50)...)
}

// P30.1: Rows and Ranks, access by access.
func TestRowsAccesses(t *testing.T) {
	m := newList(t, 200)
	check(t, m, order.NewRows(list, 1, 0, 5), told{}, "Load 2: 0")
	check(t, m, order.NewRank(list, 1, 5), told{}, "Load 2: 0")
	lay(t, m, 5, 9)
	// The head's version at 9, 5's node at 6 with its versions at 18 and 3; 9's node at 15 with its version at 12.
	atHead := "Load 2: 9, Load 10: 1, Load 10: 1, Load 9: 12, "
	at5 := atHead + "Load 8: 18, Load 19: 1, Load 19: 1, Load 18: 30, Load 6: 5"
	at9 := "Load 17: 12, Load 13: 1, Load 13: 1, Load 12: 0, Load 15: 9"
	check(t, m, order.NewRows(list, 1, 0, 5), told{pairs: pairs(5, 50, 9, 90)}, at5+", Load 7: 50, "+at9+", Load 16: 90")
	check(t, m, order.NewRows(list, 1, 5, 2), told{pairs: pairs(5, 50, 9, 90)}, at5+", Load 7: 50, "+at9+", Load 16: 90")
	check(t, m, order.NewRows(list, 1, 5, 1), told{pairs: pairs(5, 50)}, at5+", Load 7: 50")
	check(t, m, order.NewRows(list, 1, 6, 1), told{pairs: pairs(9, 90)}, at5+", "+at9+", Load 16: 90")
	check(t, m, order.NewRows(list, 1, 10, math.MaxInt), told{}, at5+", "+at9)
	for _, most := range []int{0, -1, math.MinInt} {
		check(t, m, order.NewRows(list, 1, 0, most), told{}, "")
	}
	check(t, m, order.NewRank(list, 1, 0), told{}, at5)
	check(t, m, order.NewRank(list, 1, 5), told{}, at5)
	check(t, m, order.NewRank(list, 1, 6), told{count: 1}, at5+", "+at9)
	check(t, m, order.NewRank(list, 1, 9), told{count: 1}, at5+", "+at9)
	check(t, m, order.NewRank(list, 1, greatest), told{count: 2}, at5+", "+at9)
	// At the stamp 0 there was nothing.
	check(t, m, order.NewRows(list, 0, 0, 5), told{}, "Load 2: 9, Load 10: 1, Load 10: 1, Load 11: 0")
	check(t, m, order.NewRank(list, 0, 5), told{}, "Load 2: 9, Load 10: 1, Load 10: 1, Load 11: 0")
	// A deleted node is passed over, and stays.
	do(t, m, deleteOp(5))
	at5 = atHead + "Load 8: 21, Load 22: 1, Load 22: 1, Load 21: 31, "
	check(t, m, order.NewRows(list, 1, 0, 5), told{pairs: pairs(9, 90)}, at5+at9+", Load 16: 90")
	check(t, m, order.NewRank(list, 1, greatest), told{count: 1}, at5+at9)
	checkList(t, m, 2, pairs(9, 90)...)
}

// P30.1, P30.5, P30.7: pictures stay, whatever is done behind them.
func TestPictures(t *testing.T) {
	m := newList(t, 2000)
	var want [][]api.Pair
	var stamps []uint64
	ops := []api.Op{putOp(5, 1), putOp(9, 2), putOp(7, 3), putOp(5, 4), deleteOp(9), swapOp(7, 3, 8), deleteOp(5), putOp(9, 6), swapOp(7, 3, 9), putOp(0, 1), deleteOp(7), putOp(5, 5)}
	for _, op := range ops {
		want, stamps = append(want, order.Pairs(m, list)), append(stamps, picture(t, m))
		do(t, m, op)
	}
	alone(t, m, order.NewSeek(list, order.Last, 0))
	for i, stamp := range stamps {
		for from := range uint64(11) {
			rest := slices.DeleteFunc(slices.Clone(want[i]), func(p api.Pair) bool { return p.Key < from })
			for most := 1; most < 5; most++ {
				p := order.NewRows(list, stamp, from, most)
				alone(t, m, p)
				if l := rest[:min(most, len(rest))]; !slices.Equal(p.Pairs(), l) {
					t.Errorf("stamp %d from %d, %d at most: %v, not %v", stamp, from, most, p.Pairs(), l)
				}
			}
			p := order.NewRank(list, stamp, from)
			alone(t, m, p)
			if n := len(want[i]) - len(rest); p.Count() != n {
				t.Errorf("stamp %d, %d: %d, not %d", stamp, from, p.Count(), n)
			}
		}
	}
	if !slices.Equal(order.Pairs(m, list), pairs(0, 1, 5, 5, 9, 6)) {
		t.Error(order.Pairs(m, list))
	}
}

// P3 of the document's rules: what is answered is the caller's.
func TestAnswersAreTheCallers(t *testing.T) {
	m := newList(t, 200)
	lay(t, m, 5, 9)
	p := order.NewRows(list, 1, 0, 5)
	alone(t, m, p)
	l := p.Pairs()
	l[0].Key = 99
	_ = append(l[:1], api.Pair{})
	if !slices.Equal(p.Pairs(), pairs(5, 50, 9, 90)) {
		t.Error(p.Pairs())
	}
}

// P30.1: wherever there is no room, the operation tells so, and what is there stays.
func TestNoMemory(t *testing.T) {
	for left := range 12 {
		m := newList(t, left)
		got := do(t, m, putOp(7, 1))
		if left < 9 {
			if !reflect.DeepEqual(got, failed(api.ErrMemory)) {
				t.Error(left, got)
			}
			checkList(t, m, 0)
		} else if !reflect.DeepEqual(got, api.Answer{}) {
			t.Error(left, got)
		}
	}
	for left := range 12 {
		first := newList(t, 200)
		lay(t, first, 5, 7)
		fill(first, left)
		for _, c := range []struct {
			op    api.Op
			needs int
			want  api.Answer
			then  []api.Pair
		}{
			{putOp(7, 1), 9, found(70), pairs(5, 50, 7, 1)},
			{putOp(6, 1), 9, api.Answer{}, pairs(5, 50, 6, 1, 7, 70)},
			{swapOp(7, 70, 1), 9, swapped(70), pairs(5, 50, 7, 1)},
			{swapOp(7, 71, 1), 0, found(70), pairs(5, 50, 7, 70)},
			{deleteOp(7), 3, found(70), pairs(5, 50)},
			{deleteOp(6), 0, api.Answer{}, pairs(5, 50, 7, 70)},
			{getOp(7), 0, found(70), pairs(5, 50, 7, 70)},
		} {
			m := first.Fork()
			want, then := c.want, c.then
			if left < c.needs {
				want, then = failed(api.ErrMemory), pairs(5, 50, 7, 70)
			}
			if got := do(t, m, c.op); !reflect.DeepEqual(got, want) || !slices.Equal(order.Pairs(m, list), then) {
				t.Errorf("%d left, %+v: %+v, %v", left, c.op, got, order.Pairs(m, list))
			}
		}
	}
}

// P30.1: who has no room to take a deleted node out tells so, Gets and Seeks too; Rows and Ranks go on.
func TestNoMemoryToTakeOut(t *testing.T) {
	m := newList(t, 200)
	lay(t, m, 5, 7, 9)
	do(t, m, deleteOp(7))
	fill(m, 2)
	for _, op := range []api.Op{getOp(9), putOp(9, 1), deleteOp(9), swapOp(9, 90, 1), getOp(7), getOp(8)} {
		if a := do(t, m, op); !reflect.DeepEqual(a, failed(api.ErrMemory)) {
			t.Errorf("%+v: %+v", op, a)
		}
	}
	for _, p := range []*order.Seek{order.NewSeek(list, order.Last, 0), order.NewSeek(list, order.After, 5), order.NewSeek(list, order.Before, 9)} {
		alone(t, m, p)
		if !reflect.DeepEqual(toldOf(p), told{errno: api.ErrMemory}) {
			t.Errorf("%+v", toldOf(p))
		}
	}
	p := order.NewSeek(list, order.First, 0)
	alone(t, m, p)
	if !reflect.DeepEqual(toldOf(p), ofPair(5, 50)) {
		t.Error(toldOf(p))
	}
	r, n := order.NewRows(list, 1, 0, 5), order.NewRank(list, 1, 10)
	alone(t, m, r, n)
	if !slices.Equal(r.Pairs(), pairs(5, 50, 9, 90)) || n.Count() != 2 {
		t.Error(r.Pairs(), n.Count())
	}
	checkList(t, m, 3, pairs(5, 50, 9, 90)...)
}

// P30.1: a new list takes one cell; any camera is kept.
func TestMake(t *testing.T) {
	m, _ := arena.New(128, false)
	v := m.View(0)
	for i, camera := range []uint64{0, 5, greatest} {
		if l, errno := order.Make(v, camera); l != (api.Tree{Camera: camera, Root: uint64(i + 1)}) || errno != api.OK {
			t.Error(l, errno)
		}
	}
	if got := made(m, 0); got != "Alloc [0]: 1, Alloc [0]: 2, Alloc [0]: 3" {
		t.Error(got)
	}
	v.Alloc(make([]uint64, m.Left()))
	if l, errno := order.Make(v, 1); l != (api.Tree{}) || errno != api.ErrMemory {
		t.Error(l, errno)
	}
	if l, errno := order.Make(nil, 1); l != (api.Tree{}) || errno != api.ErrNil {
		t.Error(l, errno)
	}
}

// P30.2: what is there is told by the newest values, stamped or not, as it lies, without an access.
func TestPairsAndLinked(t *testing.T) {
	m := newList(t, 400)
	checkList(t, m, 0)
	p := order.NewOp(list, putOp(7, 1))
	until(t, m, p, 5)
	checkList(t, m, 0)
	p.Step(m.View(0))
	checkList(t, m, 1, pairs(7, 1)...)
	alone(t, m, p)
	lay(t, m, 5, 9)
	do(t, m, deleteOp(7))
	from := m.Made()
	checkList(t, m, 3, pairs(5, 50, 9, 90)...)
	if m.Made() != from {
		t.Error("accesses:", made(m, from))
	}
	// Keys that do not rise, or stand twice, are told as they lie.
	m = newList(t, 400)
	layNodes(m, 9, 5, 5, 7)
	checkList(t, m, 4, pairs(9, 0, 5, 1, 5, 2, 7, 3)...)
}

// layNodes lays nodes with keys into the list, whose values are their numbers; it tells where they lie.
func layNodes(m *arena.Memory, keys ...uint64) []uint64 {
	v := m.View(9)
	object := uint64(head)
	var l []uint64
	for i, key := range keys {
		node := v.Alloc([]uint64{key, uint64(i), 0})
		v.Store(object, v.Alloc([]uint64{2 * node, 1, 0}))
		object = node + 2
		l = append(l, node)
	}
	return l
}

// layLink lets an object have a link.
func layLink(m *arena.Memory, object, link uint64) {
	v := m.View(9)
	v.Store(object, v.Alloc([]uint64{link, 1, 0}))
}

// P30.2, P1 of the document's rules: lists that lead back, and out of the memory, come to an end.
func TestPairsOfWrongLists(t *testing.T) {
	m := newList(t, 400)
	l := layNodes(m, 5, 7)
	layLink(m, l[1]+2, 2*l[0])
	if p, n := order.Pairs(m, list), order.Linked(m, list); n != m.Cells() || len(p) != n || p[0].Key != 5 || p[n-1].Key != [2]uint64{7, 5}[n%2] {
		t.Error(len(p), n)
	}
	// A deleted node counts for the bound as any other.
	layLink(m, l[1]+2, 2*l[0]+1)
	if p, n := order.Pairs(m, list), order.Linked(m, list); n != m.Cells() || len(p) != (n+1)/2 {
		t.Error(len(p), n)
	}
	cells := uint64(m.Cells())
	for _, addr := range []uint64{0, cells - 2, cells - 1, cells, cells + 5, 1 << 62, 1<<63 - 1} {
		for _, mark := range []uint64{0, 1} {
			layLink(m, l[1]+2, 2*addr+mark)
			if p, n := order.Pairs(m, list), order.Linked(m, list); n != 2 || len(p) != 2-int(mark) {
				t.Error(addr, mark, p, n)
			}
		}
	}
	// The last record that lies in the memory is a node: its link's version is 0.
	layLink(m, l[1]+2, 2*(cells-3))
	m.View(9).Store(cells-3, 8)
	checkList(t, m, 3, pairs(5, 0, 7, 1, 8, 0)...)
	// Versions and lists that are nowhere.
	m.View(9).Store(l[0]+2, 1<<50)
	checkList(t, m, 1, pairs(5, 0)...)
	for _, root := range []uint64{0, cells - 1, cells, greatest} {
		if p, n := order.Pairs(m, api.Tree{Root: root}), order.Linked(m, api.Tree{Root: root}); len(p) != 0 || n != 0 {
			t.Error(root, p, n)
		}
	}
	if p, n := order.Pairs(nil, list), order.Linked(nil, list); len(p) != 0 || n != 0 {
		t.Error(p, n)
	}
}

// P1 of the document's rules: nil procs and nil views.
func TestNil(t *testing.T) {
	m := newList(t, 200)
	lay(t, m, 5)
	from := m.Made()
	var op *order.Op
	var seek *order.Seek
	var rows *order.Rows
	var rank *order.Rank
	for _, p := range []step.Proc{op, seek, rows, rank} {
		if !p.Step(m.View(0)) || !p.Step(nil) {
			t.Errorf("%T is not done", p)
		}
	}
	if !reflect.DeepEqual(op.Answer(), failed(api.ErrNil)) || seek.Errno() != api.ErrNil || rows.Pairs() != nil || rank.Count() != 0 || m.Made() != from {
		t.Error("a nil proc tells something")
	}
	if pair, known := seek.Pair(); pair != (api.Pair{}) || known {
		t.Error(pair, known)
	}
	// On a nil view all is empty, and there is no room.
	for _, c := range []struct {
		p    step.Proc
		want told
	}{
		{order.NewOp(list, getOp(5)), told{}},
		{order.NewOp(list, deleteOp(5)), told{}},
		{order.NewOp(list, putOp(5, 1)), told{answer: failed(api.ErrMemory)}},
		{order.NewSeek(list, order.First, 0), told{}},
		{order.NewRows(list, 1, 0, 5), told{}},
		{order.NewRank(list, 1, 5), told{}},
	} {
		if !step.Alone(nil, c.p, 2) || !reflect.DeepEqual(toldOf(c.p), c.want) {
			t.Errorf("%T: %+v", c.p, toldOf(c.p))
		}
	}
}
