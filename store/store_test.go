package store_test

import (
	"math"
	"reflect"
	"slices"
	"testing"

	"shutter/announce"
	"shutter/api"
	"shutter/cut"
	"shutter/mix"
	"shutter/step"
	"shutter/store"
	"shutter/trie"
)

const greatest = math.MaxUint64

// whole is the Config of the document's examples.
var whole = api.Config{Cells: 2000, Slots: 2, Stamps: 100, Multi: 4}

func newStore(t *testing.T, c api.Config) *store.Store {
	t.Helper()
	s, errno := store.New(c)
	if errno != api.OK || s == nil {
		t.Fatal(errno)
	}
	return s
}

// tell does an operation to its end: what it tells.
func tell(t *testing.T, s *store.Store, op api.Op) api.Answer {
	t.Helper()
	p := s.Call(op)
	if !step.Alone(s.Memory().View(0), p, 1<<20) {
		t.Fatalf("%+v is not done", op)
	}
	return p.Answer()
}

// check does an operation to its end, and holds what it tells against what is wanted.
func check(t *testing.T, s *store.Store, op api.Op, want api.Answer) {
	t.Helper()
	if got := tell(t, s, op); !reflect.DeepEqual(got, want) {
		t.Errorf("%+v tells %+v, not %+v", op, got, want)
	}
}

func get(key uint64) api.Op        { return api.Op{Kind: api.Get, Key: key} }
func put(key, value uint64) api.Op { return api.Op{Kind: api.Put, Key: key, Value: value} }
func remove(key uint64) api.Op     { return api.Op{Kind: api.Delete, Key: key} }
func swap(key, old, value uint64) api.Op {
	return api.Op{Kind: api.Swap, Key: key, Old: old, Value: value}
}
func release(handle uint64) api.Op { return api.Op{Kind: api.Release, Handle: handle} }
func multiGet(handle uint64, keys ...uint64) api.Op {
	return api.Op{Kind: api.MultiGet, Handle: handle, Keys: keys}
}
func rangeOf(handle, lo, hi uint64) api.Op {
	return api.Op{Kind: api.Range, Handle: handle, Lo: lo, Hi: hi}
}
func countOf(handle, lo, hi uint64) api.Op {
	return api.Op{Kind: api.Count, Handle: handle, Lo: lo, Hi: hi}
}

var (
	snapshot = api.Op{Kind: api.Snapshot}
	collect  = api.Op{Kind: api.Collect}
)

func none() api.Answer                  { return api.Answer{} }
func found(value uint64) api.Answer     { return api.Answer{Found: true, Value: value} }
func done(value uint64) api.Answer      { return api.Answer{Found: true, Value: value, Done: true} }
func held(handle uint64) api.Answer     { return api.Answer{Handle: handle} }
func counted(n uint64) api.Answer       { return api.Answer{Count: n} }
func failed(errno api.Errno) api.Answer { return api.Answer{Errno: errno} }
func shown(l ...uint64) api.Answer      { return api.Answer{Pairs: pairs(l...)} }

// pairs are keys with their values, in turn.
func pairs(l ...uint64) []api.Pair {
	var out []api.Pair
	for i := 0; i < len(l); i += 2 {
		out = append(out, api.Pair{Key: l[i], Value: l[i+1]})
	}
	return out
}

// keyOf is the key whose mixed key has these digits, and then noughts.
func keyOf(t *testing.T, digits ...int) uint64 {
	t.Helper()
	h, ok := mix.Join(append(digits, make([]int, api.Levels-len(digits))...))
	if !ok {
		t.Fatal("no digits:", digits)
	}
	return mix.Back(h)
}

// P16.1: what may be, and what may not; a number that may not be is told ahead of cells that have no room.
func TestNew(t *testing.T) {
	most := api.Config{Cells: api.MaxCells, Slots: api.MaxSlots, Stamps: api.MaxStamp, Multi: api.MaxMulti}
	least := api.Config{Cells: api.MinCells, Slots: 1, Stamps: 1, Multi: 1}
	for _, c := range []struct {
		change func(c *api.Config)
		errno  api.Errno
	}{
		{func(c *api.Config) {}, api.OK},
		{func(c *api.Config) { *c = most }, api.OK},
		{func(c *api.Config) { *c = least }, api.OK},
		{func(c *api.Config) { c.Cells = api.MinCells - 1 }, api.ErrRange},
		{func(c *api.Config) { c.Cells = api.MaxCells + 1 }, api.ErrRange},
		{func(c *api.Config) { c.Cells = -1 }, api.ErrRange},
		{func(c *api.Config) { c.Slots = 0 }, api.ErrRange},
		{func(c *api.Config) { c.Slots = -1 }, api.ErrRange},
		{func(c *api.Config) { c.Slots = api.MaxSlots }, api.OK},
		{func(c *api.Config) { c.Slots = api.MaxSlots + 1 }, api.ErrRange},
		{func(c *api.Config) { c.Stamps = 0 }, api.ErrRange},
		{func(c *api.Config) { c.Stamps = api.MaxStamp }, api.OK},
		{func(c *api.Config) { c.Stamps = api.MaxStamp + 1 }, api.ErrRange},
		{func(c *api.Config) { c.Stamps = greatest }, api.ErrRange},
		{func(c *api.Config) { c.Multi = 0 }, api.ErrRange},
		{func(c *api.Config) { c.Multi = -1 }, api.ErrRange},
		{func(c *api.Config) { c.Multi = api.MaxMulti }, api.OK},
		{func(c *api.Config) { c.Multi = api.MaxMulti + 1 }, api.ErrRange},
		{func(c *api.Config) { *c = api.Config{} }, api.ErrRange},
		{func(c *api.Config) { c.Cells, c.Slots = 128, 62 }, api.OK},
		{func(c *api.Config) { c.Cells, c.Slots = 128, 63 }, api.ErrMemory},
		{func(c *api.Config) { c.Cells, c.Slots = 128, 256 }, api.ErrMemory},
		{func(c *api.Config) { c.Cells, c.Slots = 128, 257 }, api.ErrRange},
		{func(c *api.Config) { c.Cells, c.Slots, c.Multi = 128, 63, 0 }, api.ErrRange},
		{func(c *api.Config) { c.Cells, c.Slots, c.Stamps = 128, 63, 0 }, api.ErrRange},
		{func(c *api.Config) { c.Cells, c.Slots = 322, 256 }, api.OK},
		{func(c *api.Config) { c.Cells, c.Slots = 321, 256 }, api.ErrMemory},
	} {
		config := whole
		c.change(&config)
		for live, make := range map[bool]func(api.Config) (*store.Store, api.Errno){false: store.New, true: store.NewLive} {
			s, errno := make(config)
			if errno != c.errno || (s == nil) != (errno != api.OK) {
				t.Errorf("%+v, live %t: %v, %d, not %d", config, live, s, errno, c.errno)
			}
			if s != nil {
				checkNew(t, s, config, live)
			}
		}
		if _, errno := store.Run(api.Script{Config: config}); errno != c.errno {
			t.Errorf("a script of %+v: %d, not %d", config, errno, c.errno)
		}
	}
}

// checkNew checks that a store is empty, and lies as the chapter says.
func checkNew(t *testing.T, s *store.Store, c api.Config, live bool) {
	t.Helper()
	m := s.Memory()
	if m.Live() != live || m.Cells() != c.Cells || m.Left() != c.Cells-66-c.Slots {
		t.Errorf("%+v: live %t, %d cells, %d left", c, m.Live(), m.Cells(), m.Left())
	}
	if got := s.Tree(); got != (api.Tree{Camera: 1, Root: 2}) {
		t.Errorf("%+v", got)
	}
	if got := s.Slots(); got != (api.Slots{Camera: 1, First: 66, Count: c.Slots, Most: c.Stamps}) {
		t.Errorf("%+v", got)
	}
	if len(s.Content()) != 0 || m.Peek(1) != 1 {
		t.Error(s.Content(), m.Peek(1))
	}
	for i, a := range m.Trace() {
		want := []int{1, 64, c.Slots}[i]
		if a.Kind != api.Alloc || a.Thread != -1 || len(a.Values) != want {
			t.Errorf("access %d is %+v", i, a)
		}
	}
	if m.Made() != 3 && !live {
		t.Error(m.Made(), "accesses")
	}
}

// The document's examples of the whole, 1 and 2.
func TestExamplesOfKeys(t *testing.T) {
	s := newStore(t, whole)
	check(t, s, get(7), none())
	check(t, s, put(7, 1), none())
	check(t, s, put(7, 2), found(1))
	check(t, s, get(7), found(2))
	check(t, s, remove(7), found(2))
	check(t, s, get(7), none())
	check(t, s, remove(7), none())

	s = newStore(t, whole)
	check(t, s, swap(7, 1, 5), none())
	check(t, s, put(7, 1), none())
	check(t, s, swap(7, 1, 5), done(1))
	check(t, s, swap(7, 1, 5), found(5))
	check(t, s, get(7), found(5))
}

// Examples 3, 4 and 5.
func TestExamplesOfHandles(t *testing.T) {
	s := newStore(t, whole)
	check(t, s, put(7, 1), none())
	check(t, s, snapshot, held(1))
	check(t, s, put(7, 2), found(1))
	check(t, s, put(8, 3), none())
	check(t, s, rangeOf(1, 0, 100), shown(7, 1))
	check(t, s, get(7), found(2))

	check(t, s, multiGet(1, 1, 2, 3, 4, 5), failed(api.ErrLong))
	check(t, s, multiGet(99, 1, 2, 3, 4, 5), failed(api.ErrLong))
	check(t, s, multiGet(1, 9, 7, 7), shown(7, 1, 7, 1))
	check(t, s, multiGet(1), shown())
	check(t, s, rangeOf(1, 5, 3), shown())
	check(t, s, countOf(1, 5, 3), counted(0))
	check(t, s, countOf(1, 0, greatest), counted(1))
	check(t, s, countOf(1, 7, 7), counted(1))
	check(t, s, countOf(1, 8, greatest), counted(0))

	check(t, s, snapshot, held(2))
	check(t, s, rangeOf(2, 0, 100), shown(7, 2, 8, 3))
	check(t, s, snapshot, failed(api.ErrSlot))
	check(t, s, release(1), none())
	check(t, s, release(1), failed(api.ErrHandle))
	check(t, s, rangeOf(1, 0, 100), failed(api.ErrHandle))
	check(t, s, snapshot, held(65537))
	check(t, s, countOf(65537, 0, 100), counted(2))
	check(t, s, countOf(1, 0, 100), failed(api.ErrHandle))
}

// Example 6: at each step one of the two, in turn.
func TestExampleOfTwoThreads(t *testing.T) {
	script := api.Script{Config: whole, Threads: [][]api.Op{{put(7, 1)}, {put(7, 2), get(7)}}}
	for range 100 {
		script.Picks = append(script.Picks, 0, 1)
	}
	r := run(t, script)
	if len(r.Dids) != 3 || r.Dids[0].Span.To < 0 || r.Dids[1].Span.To < 0 || r.Dids[2].Span.To < 0 {
		t.Fatalf("%+v", r.Dids)
	}
	a, b, c := r.Dids[0].Answer, r.Dids[1].Answer, r.Dids[2].Answer
	if a.Found == b.Found || !c.Found || c.Value == 0 || c.Value > 2 {
		t.Errorf("%+v", r.Dids)
	}
}

// Example 7: the Snapshot has loaded a slot, claimed it, loaded the camera.
func TestExampleOfASnapshotThatStandsStill(t *testing.T) {
	s := newStore(t, whole)
	check(t, s, put(7, 1), none())
	p := s.Call(snapshot)
	step.Alone(s.Memory().View(1), p, 3)
	check(t, s, put(7, 2), found(1))
	check(t, s, snapshot, held(2))
	check(t, s, put(7, 3), found(2))
	check(t, s, put(8, 4), none())
	check(t, s, remove(7), found(3))
	tell(t, s, collect)
	check(t, s, release(2), none())
	tell(t, s, collect)
	step.Alone(s.Memory().View(1), p, 4)
	if a := p.Answer(); !reflect.DeepEqual(a, held(1)) {
		t.Fatalf("%+v", a)
	}
	check(t, s, put(8, 5), found(4))
	tell(t, s, collect)
	check(t, s, rangeOf(1, 0, 100), shown(8, 4))
}

// Example 8, at each step that a query can stand at.
func TestExampleOfAQueryUnderWay(t *testing.T) {
	for _, op := range []api.Op{multiGet(1, 7), multiGet(1), rangeOf(1, 0, 100), countOf(1, 0, 100), rangeOf(1, 5, 3)} {
		for steps := 1; ; steps++ {
			s := newStore(t, whole)
			check(t, s, put(7, 1), none())
			check(t, s, snapshot, held(1))
			p := s.Call(op)
			if step.Alone(s.Memory().View(1), p, steps) {
				if steps < 2 {
					t.Errorf("%+v is done by a step", op)
				}
				break
			}
			check(t, s, release(1), none())
			check(t, s, put(7, 2), found(1))
			check(t, s, snapshot, held(65537))
			tell(t, s, collect)
			if !step.Alone(s.Memory().View(1), p, 1000) || !reflect.DeepEqual(p.Answer(), failed(api.ErrStale)) {
				t.Fatalf("%+v, stopped behind %d steps, tells %+v", op, steps, p.Answer())
			}
		}
	}
}

// Example 9, P16.6.
func TestExampleOfNoMemory(t *testing.T) {
	s := newStore(t, whole)
	keys := uint64(0)
	for ; ; keys++ {
		a := tell(t, s, put(keys, keys+1))
		if a.Errno != api.OK {
			if !reflect.DeepEqual(a, failed(api.ErrMemory)) {
				t.Fatalf("%+v", a)
			}
			break
		}
	}
	if keys < 20 || uint64(len(s.Content())) != keys {
		t.Fatal(keys, s.Content())
	}
	for key := range keys {
		check(t, s, get(key), found(key+1))
	}
	check(t, s, get(keys), none())
	check(t, s, remove(greatest), none())
	check(t, s, swap(0, 5, 6), found(1))
	// What is left is less than a branch; nothing of a version's length is left, when it has gone, too.
	for range 70 {
		tell(t, s, put(0, 1))
	}
	check(t, s, put(0, 9), failed(api.ErrMemory))
	check(t, s, remove(0), failed(api.ErrMemory))
	check(t, s, swap(0, 1, 2), failed(api.ErrMemory))
	check(t, s, get(0), found(1))
	check(t, s, snapshot, held(1))
	check(t, s, countOf(1, 0, greatest), counted(keys))
	check(t, s, multiGet(1, 3, keys, 2), shown(3, 4, 2, 3))
	tell(t, s, collect)
	if a := tell(t, s, rangeOf(1, 0, greatest)); !slices.Equal(a.Pairs, s.Content()) {
		t.Errorf("%+v", a)
	}
	check(t, s, release(1), none())
	check(t, s, snapshot, held(65537))
}

// Example 10, P16.6.
func TestExampleOfNoStamps(t *testing.T) {
	c := whole
	c.Stamps = 2
	s := newStore(t, c)
	check(t, s, put(7, 1), none())
	check(t, s, snapshot, held(1))
	check(t, s, snapshot, failed(api.ErrStamp))
	check(t, s, put(7, 2), found(1))
	check(t, s, swap(7, 2, 3), done(2))
	check(t, s, remove(7), found(3))
	check(t, s, put(8, 4), none())
	check(t, s, snapshot, failed(api.ErrStamp))
	check(t, s, rangeOf(1, 0, 100), shown(7, 1))
	check(t, s, collect, counted(2))
	check(t, s, rangeOf(1, 0, 100), shown(7, 1))
	check(t, s, release(1), none())
	check(t, s, snapshot, failed(api.ErrStamp))
	check(t, s, collect, counted(1))
	check(t, s, get(8), found(4))
}

// The chapter's example 2.
func TestExampleOfCells(t *testing.T) {
	s := newStore(t, api.Config{Cells: 128, Slots: 50, Stamps: 1, Multi: 1})
	for _, c := range []struct {
		left int
		want api.Answer
	}{{7, none()}, {2, found(1)}, {0, failed(api.ErrMemory)}} {
		check(t, s, put(7, 1), c.want)
		if s.Memory().Left() != c.left {
			t.Error("left:", s.Memory().Left())
		}
	}
	if got := s.Content(); !slices.Equal(got, pairs(7, 1)) {
		t.Error(got)
	}
}

// P16.2: what is refused takes one step, and no access.
func TestRefused(t *testing.T) {
	s := newStore(t, whole)
	for _, c := range []struct {
		op    api.Op
		errno api.Errno
	}{
		{api.Op{}, api.ErrOp},
		{api.Op{Kind: 11, Key: 7, Handle: 1}, api.ErrOp},
		{api.Op{Kind: 255}, api.ErrOp},
		{multiGet(0, 1, 2, 3, 4, 5), api.ErrLong},
		{multiGet(greatest, 1, 2, 3, 4, 5, 6), api.ErrLong},
		{multiGet(0, 1), api.ErrHandle},
		{rangeOf(3, 0, 1), api.ErrHandle},
		{countOf(greatest, 1, 0), api.ErrHandle},
		{release(0), api.ErrHandle},
		{release(3), api.ErrHandle},
	} {
		from := s.Memory().Made()
		p := s.Call(c.op)
		if a := p.Answer(); !reflect.DeepEqual(a, none()) {
			t.Errorf("%+v tells %+v ahead of its step", c.op, a)
		}
		for range 3 {
			if !p.Step(s.Memory().View(0)) || !reflect.DeepEqual(p.Answer(), failed(c.errno)) {
				t.Errorf("%+v tells %+v", c.op, p.Answer())
			}
		}
		if s.Memory().Made() != from {
			t.Errorf("%+v made accesses", c.op)
		}
	}
	// As many keys as may be are no error.
	check(t, s, snapshot, held(1))
	check(t, s, multiGet(1, 1, 2, 3, 4), shown())
}

// P16.2: a Ref plays no part in a Call, nor do fields that a kind does not name.
func TestFieldsThatPlayNoPart(t *testing.T) {
	s := newStore(t, whole)
	check(t, s, put(7, 1), none())
	check(t, s, snapshot, held(1))
	all := api.Op{Key: 7, Value: 3, Old: 2, Handle: 1, Ref: api.Ref{Set: true, Thread: 3, Index: 1}, Keys: []uint64{7}, Lo: 1, Hi: 9}
	for _, c := range []struct {
		kind api.OpKind
		want api.Answer
	}{
		{api.Get, found(1)},
		{api.Put, found(1)},
		{api.Swap, found(3)},
		{api.MultiGet, shown(7, 1)},
		{api.Range, shown(7, 1)},
		{api.Count, counted(1)},
		{api.Delete, found(3)},
		{api.Snapshot, held(2)},
		{api.Collect, counted(1)},
		{api.Release, none()},
		{api.Release, failed(api.ErrHandle)},
	} {
		all.Kind = c.kind
		check(t, s, all, c.want)
	}
}

// P1, P16.2: of a nil store, a nil Call, a nil View.
func TestNil(t *testing.T) {
	var s *store.Store
	if s.Memory() != nil || s.Tree() != (api.Tree{}) || s.Slots() != (api.Slots{}) || len(s.Content()) != 0 || s.Call(get(7)) != nil {
		t.Error("a nil store")
	}
	var p *store.Call
	if !p.Step(newStore(t, whole).Memory().View(0)) || !p.Step(nil) || !reflect.DeepEqual(p.Answer(), failed(api.ErrNil)) {
		t.Errorf("a nil Call tells %+v", p.Answer())
	}
	s = newStore(t, whole)
	check(t, s, snapshot, held(1))
	from := s.Memory().Made()
	for _, c := range []struct {
		op    api.Op
		steps int
		want  api.Answer
	}{
		{get(7), 1, none()},
		{put(7, 1), 2, failed(api.ErrMemory)},
		{remove(7), 1, none()},
		{swap(7, 0, 1), 1, none()},
		{snapshot, 4, failed(api.ErrSlot)},
		{release(1), 1, failed(api.ErrHandle)},
		{rangeOf(1, 0, 9), 1, failed(api.ErrHandle)},
		{collect, 67, counted(0)},
	} {
		p := s.Call(c.op)
		if step.Alone(nil, p, c.steps-1) || !step.Alone(nil, p, 1) || !reflect.DeepEqual(p.Answer(), c.want) {
			t.Errorf("on a nil view %+v tells %+v", c.op, p.Answer())
		}
	}
	if s.Memory().Made() != from {
		t.Error("steps on a nil view made accesses")
	}
}

// P3: lists that are handed in stay, and are not kept; those that are answered are the caller's.
func TestListsStay(t *testing.T) {
	s := newStore(t, whole)
	check(t, s, put(7, 1), none())
	check(t, s, put(8, 2), none())
	check(t, s, snapshot, held(1))
	room := []uint64{7, 8, 55, 66}
	for steps := range 4 {
		p := s.Call(multiGet(1, room[:2]...))
		step.Alone(s.Memory().View(0), p, steps)
		if !slices.Equal(room, []uint64{7, 8, 55, 66}) {
			t.Fatal(room)
		}
		room[0], room[1] = 1, 1
		step.Alone(s.Memory().View(0), p, 1000)
		if a := p.Answer(); !slices.Equal(a.Pairs, pairs(7, 1, 8, 2)) {
			t.Errorf("what became of the list, behind %d steps, let it tell %+v", steps, a)
		}
		room[0], room[1] = 7, 8
	}
	p := s.Call(rangeOf(1, 0, 100))
	step.Alone(s.Memory().View(0), p, 1000)
	a := p.Answer()
	a.Pairs[0] = api.Pair{}
	_ = append(a.Pairs[:1], api.Pair{})
	if b := p.Answer(); !slices.Equal(b.Pairs, pairs(7, 1, 8, 2)) {
		t.Errorf("what became of an answer let it tell %+v", b)
	}
	l := s.Content()
	l[0] = api.Pair{}
	if !slices.Equal(s.Content(), pairs(7, 1, 8, 2)) {
		t.Error(s.Content())
	}
}

// P16.1: Content is trie.Pairs, without an access; of a live store, too.
func TestContent(t *testing.T) {
	live, errno := store.NewLive(whole)
	if errno != api.OK {
		t.Fatal(errno)
	}
	for _, s := range []*store.Store{newStore(t, whole), live} {
		for _, key := range []uint64{9, 3, greatest, 0, keyOf(t, 4, 1), keyOf(t, 4, 2)} {
			check(t, s, put(key, key/2), none())
		}
		check(t, s, remove(9), found(4))
		from := s.Memory().Made()
		l := s.Content()
		if len(l) != 5 || !slices.Equal(l, trie.Pairs(s.Memory(), s.Tree())) {
			t.Error(l)
		}
		if l[0] != (api.Pair{}) || l[1] != (api.Pair{Key: 3, Value: 1}) || l[4].Key != greatest {
			t.Error(l)
		}
		if s.Memory().Made() != from {
			t.Error("Content made accesses")
		}
	}
}

// P16.2: procs of the layers below may be done on what a store lies in.
func TestWhatItLiesIn(t *testing.T) {
	s := newStore(t, whole)
	v := s.Memory().View(5)
	p := announce.NewSnapshot(s.Slots())
	step.Alone(v, trie.NewPut(s.Tree(), 7, 1), 100)
	step.Alone(v, p, 100)
	check(t, s, put(7, 2), found(1))
	check(t, s, countOf(p.Handle(), 0, 100), counted(1))
	if cut.Kept(s.Memory(), s.Tree()) != 2 {
		t.Error("kept", cut.Kept(s.Memory(), s.Tree()))
	}
}
