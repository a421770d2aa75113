package locked_test

import (
	"math"
	"reflect"
	"slices"
	"testing"

	"shutter/api"
	"shutter/locked"
	"shutter/script"
	"shutter/store"
)

func config() api.Config {
	return api.Config{Cells: 2000, Slots: 2, Stamps: 100, Multi: 4}
}

func newStore(t *testing.T, c api.Config) *locked.Store {
	t.Helper()
	s, errno := locked.New(c)
	if s == nil || errno != api.OK {
		t.Fatal(c, s, errno)
	}
	return s
}

// ops are operations, each by its text.
func ops(t *testing.T, texts ...string) []api.Op {
	t.Helper()
	var l []api.Op
	for _, text := range texts {
		op, errno := script.ParseOp(text)
		if errno != api.OK {
			t.Fatal(text, errno)
		}
		l = append(l, op)
	}
	return l
}

// tells checks that a store tells this of an operation, by their texts.
func tells(t *testing.T, s *locked.Store, text, want string) {
	t.Helper()
	op := ops(t, text)[0]
	told, _ := s.Do(op)
	if got := script.PrintAnswer(op.Kind, told); got != want {
		t.Errorf("%s: %s, not %s", text, got, want)
	}
}

// The examples of the chapter.
func TestExamples(t *testing.T) {
	s := newStore(t, config())
	if a, number := s.Do(api.Op{Kind: api.Put, Key: 7, Value: 1}); !reflect.DeepEqual(a, api.Answer{}) || number != 0 {
		t.Error(a, number)
	}
	if a, number := s.Do(api.Op{Kind: api.Get, Key: 7}); !reflect.DeepEqual(a, api.Answer{Found: true, Value: 1}) || number != 1 {
		t.Error(a, number)
	}
	for range 50 {
		l, order, errno := locked.Run(config(), [][]api.Op{ops(t, "put 7 1"), ops(t, "put 7 2")})
		if errno != api.OK || len(l) != 2 || len(order) != 2 {
			t.Fatal(l, order, errno)
		}
		first, last := l[order[0]], l[order[1]]
		if !reflect.DeepEqual(first.Answer, api.Answer{}) || !reflect.DeepEqual(last.Answer, api.Answer{Found: true, Value: first.Op.Value}) {
			t.Error(l, order)
		}
	}
}

// P25.1: each number at its edges; cells that are too few for a trie are enough.
func TestNew(t *testing.T) {
	fits := []api.Config{
		{Cells: api.MinCells, Slots: 1, Stamps: 1, Multi: 1},
		{Cells: api.MaxCells, Slots: api.MaxSlots, Stamps: api.MaxStamp, Multi: api.MaxMulti},
		{Cells: api.MinCells, Slots: 62, Stamps: 1, Multi: 1},
		{Cells: api.MinCells, Slots: 63, Stamps: 1, Multi: 1}, // store.New: ErrMemory
		{Cells: api.MinCells, Slots: api.MaxSlots, Stamps: 1, Multi: 1},
	}
	wrongs := []api.Config{{}}
	for _, change := range []func(*api.Config){
		func(c *api.Config) { c.Cells = api.MinCells - 1 },
		func(c *api.Config) { c.Cells = api.MaxCells + 1 },
		func(c *api.Config) { c.Cells = math.MinInt },
		func(c *api.Config) { c.Slots = 0 },
		func(c *api.Config) { c.Slots = -1 },
		func(c *api.Config) { c.Slots = api.MaxSlots + 1 },
		func(c *api.Config) { c.Stamps = 0 },
		func(c *api.Config) { c.Stamps = api.MaxStamp + 1 },
		func(c *api.Config) { c.Stamps = math.MaxUint64 },
		func(c *api.Config) { c.Multi = 0 },
		func(c *api.Config) { c.Multi = -1 },
		func(c *api.Config) { c.Multi = api.MaxMulti + 1 },
	} {
		c := config()
		change(&c)
		wrongs = append(wrongs, c)
	}
	for _, c := range append(fits, wrongs...) {
		want := api.OK
		if _, errno := store.New(c); errno == api.ErrRange {
			want = api.ErrRange
		}
		s, errno := locked.New(c)
		if errno != want || (s != nil) != (want == api.OK) || len(s.Content()) != 0 {
			t.Error(c, errno)
		}
		if l, order, errno := locked.Run(c, nil); errno != want || len(l) != 0 || len(order) != 0 {
			t.Error(c, errno)
		}
	}
}

// P25.1: the document's examples of the whole that need no threads.
func TestOneBehindTheOther(t *testing.T) {
	s := newStore(t, config())
	for _, step := range [][2]string{
		{"get 7", "none"}, {"put 7 1", "none"}, {"put 7 2", "found 1"}, {"get 7", "found 2"}, {"delete 7", "found 2"}, {"get 7", "none"},
		{"swap 7 1 5", "none"}, {"put 7 1", "none"}, {"swap 7 1 5", "done 1"}, {"swap 7 1 5", "found 5"},
		{"snapshot", "handle 1"}, {"put 8 3", "none"}, {"range 1 0 100", "pairs 7:5"}, {"get 7", "found 5"},
		{"snapshot", "handle 2"}, {"snapshot", "errno 32"}, {"release 1", "ok"}, {"release 1", "errno 33"}, {"snapshot", "handle 65537"},
		{"multiget 2 1 2 3 4 5", "errno 6"}, {"multiget 9 1 2 3 4 5", "errno 6"}, {"multiget 2 9 7 7", "pairs 7:5 7:5"}, {"multiget 1 7", "errno 33"}, {"multiget 2", "pairs"},
		{"range 2 5 3", "pairs"}, {"count 2 0 18446744073709551615", "count 2"}, {"count 0 0 9", "errno 33"}, {"collect", "count 0"},
		{"release 0", "errno 33"}, {"release 3", "errno 33"}, {"release 18446744073709551615", "errno 33"},
	} {
		tells(t, s, step[0], step[1])
	}
	if got := s.Content(); !slices.Equal(got, []api.Pair{{Key: 7, Value: 5}, {Key: 8, Value: 3}}) {
		t.Error(got)
	}
}

// P25.1: a kind that is none; a Ref plays no part; whatever is told, it has a number.
func TestOddOperations(t *testing.T) {
	s := newStore(t, config())
	odd := []api.Op{{}, {Kind: api.Collect + 1, Key: 7, Value: 1}, {Kind: 255}}
	for i, op := range odd {
		if a, number := s.Do(op); !reflect.DeepEqual(a, api.Answer{Errno: api.ErrOp}) || number != i {
			t.Error(op, a, number)
		}
	}
	s.Do(api.Op{Kind: api.Snapshot})
	for i, op := range []api.Op{
		{Kind: api.Count, Handle: 1, Ref: api.Ref{Set: true, Thread: 5, Index: 5}},
		{Kind: api.Release, Handle: 1, Ref: api.Ref{Set: true, Thread: -1, Index: math.MinInt}},
	} {
		if a, number := s.Do(op); a.Errno != api.OK || number != len(odd)+1+i {
			t.Error(op, a, number)
		}
	}
	if len(s.Content()) != 0 {
		t.Error(s.Content())
	}
}

// P25.1: handles are those of the lowest slots that are free, each of its next generation.
func TestLowestSlot(t *testing.T) {
	c := config()
	c.Slots = 3
	s := newStore(t, c)
	for _, step := range [][2]string{
		{"snapshot", "handle 1"}, {"snapshot", "handle 2"}, {"snapshot", "handle 3"}, {"snapshot", "errno 32"},
		{"release 3", "ok"}, {"release 2", "ok"}, {"snapshot", "handle 65538"}, {"release 65538", "ok"}, {"snapshot", "handle 131074"},
		{"release 1", "ok"}, {"snapshot", "handle 65537"}, {"snapshot", "handle 65539"}, {"release 2", "errno 33"}, {"snapshot", "errno 32"},
	} {
		tells(t, s, step[0], step[1])
	}
}

// P25.1: as many Snapshots are done as the last stamp less 1; ahead of that comes the want of slots.
func TestStamps(t *testing.T) {
	for _, stamps := range []uint64{1, 2, 3, 7} {
		c := api.Config{Cells: 200, Slots: 1, Stamps: stamps, Multi: 1}
		s := newStore(t, c)
		handle := uint64(1)
		for range stamps - 1 {
			if a, _ := s.Do(api.Op{Kind: api.Snapshot}); a.Errno != api.OK || a.Handle != handle {
				t.Fatal(stamps, a)
			}
			if a, _ := s.Do(api.Op{Kind: api.Snapshot}); !reflect.DeepEqual(a, api.Answer{Errno: api.ErrSlot}) {
				t.Fatal(stamps, a)
			}
			s.Do(api.Op{Kind: api.Release, Handle: handle})
			handle += 1 << 16
		}
		for range 2 {
			if a, _ := s.Do(api.Op{Kind: api.Snapshot}); !reflect.DeepEqual(a, api.Answer{Errno: api.ErrStamp}) {
				t.Fatal(stamps, a)
			}
		}
		// Writes go on.
		tells(t, s, "put 7 1", "none")
		tells(t, s, "get 7", "found 1")
	}
}

// wear takes handles of a store and lets them go, till one of another slot is told, or an error: how many were of the slot 0, and what was told then.
func wear(s *locked.Store) (int, api.Answer) {
	for n := 0; ; n++ {
		a, _ := s.Do(api.Op{Kind: api.Snapshot})
		if a.Errno != api.OK || a.Handle != uint64(n)<<16+1 {
			return n, a
		}
		s.Do(api.Op{Kind: api.Release, Handle: a.Handle})
	}
}

// P25.1: a slot has MaxGen - 1 handles, and no more; a want of stamps is told ahead of that.
func TestGenerationsEnd(t *testing.T) {
	const whole = api.MaxGen - 1
	c := api.Config{Cells: 200, Slots: 1, Stamps: api.MaxStamp, Multi: 1}
	s := newStore(t, c)
	if n, a := wear(s); n != whole || !reflect.DeepEqual(a, api.Answer{Errno: api.ErrSlot}) {
		t.Error(n, a)
	}
	c.Slots = 2
	s = newStore(t, c)
	if n, a := wear(s); n != whole || !reflect.DeepEqual(a, api.Answer{Handle: 2}) {
		t.Error(n, a)
	}
	// The slot 1 holds, the slot 0 is worn out.
	tells(t, s, "snapshot", "errno 32")
	tells(t, s, "release 2", "ok")
	tells(t, s, "snapshot", "handle 65538")
	c.Slots, c.Stamps = 1, api.MaxGen
	s = newStore(t, c)
	if n, a := wear(s); n != whole || !reflect.DeepEqual(a, api.Answer{Errno: api.ErrStamp}) {
		t.Error(n, a)
	}
}

// P25.1: cells play no part: more is put in than a memory of so many cells has room for.
func TestMemoryIsNeverShort(t *testing.T) {
	s := newStore(t, api.Config{Cells: api.MinCells, Slots: api.MaxSlots, Stamps: 5, Multi: 1})
	for key := range uint64(1000) {
		if a, number := s.Do(api.Op{Kind: api.Put, Key: key, Value: key + 1}); !reflect.DeepEqual(a, api.Answer{}) || number != int(key) {
			t.Fatal(key, a, number)
		}
	}
	l := s.Content()
	for i, p := range l {
		if p.Key != uint64(i) || p.Value != p.Key+1 {
			t.Fatal(i, p)
		}
	}
	if len(l) != 1000 {
		t.Error(len(l))
	}
}

// P25.1, P1: of nil.
func TestNil(t *testing.T) {
	var s *locked.Store
	for _, op := range []api.Op{{}, {Kind: api.Get}, {Kind: api.Snapshot}, {Kind: api.Release, Handle: 1}} {
		if a, number := s.Do(op); !reflect.DeepEqual(a, api.Answer{Errno: api.ErrNil}) || number != -1 {
			t.Error(a, number)
		}
	}
	if len(s.Content()) != 0 {
		t.Error(s.Content())
	}
}

// P3: what is handed in stays, spare room too; what is told is the caller's.
func TestListsAreTheCallers(t *testing.T) {
	s := newStore(t, config())
	s.Do(api.Op{Kind: api.Put, Key: 7, Value: 1})
	s.Do(api.Op{Kind: api.Snapshot})
	keys := []uint64{7, 7, 9, 9}
	looks := []api.Op{{Kind: api.MultiGet, Handle: 1, Keys: keys[:2]}, {Kind: api.Range, Handle: 1, Hi: 9}}
	for range 2 {
		for _, op := range looks {
			a, _ := s.Do(op)
			for i := range a.Pairs {
				if a.Pairs[i] != (api.Pair{Key: 7, Value: 1}) {
					t.Fatal(a)
				}
				a.Pairs[i] = api.Pair{Key: 5, Value: 5}
			}
			if len(a.Pairs) == 0 || !slices.Equal(keys, []uint64{7, 7, 9, 9}) {
				t.Error(a, keys)
			}
		}
		l := s.Content()
		if !slices.Equal(l, []api.Pair{{Key: 7, Value: 1}}) {
			t.Fatal(l)
		}
		l[0] = api.Pair{}
	}
}

// P25.1: stores are each by itself.
func TestStoresAreApart(t *testing.T) {
	a, b := newStore(t, config()), newStore(t, config())
	tells(t, a, "put 7 1", "none")
	tells(t, a, "snapshot", "handle 1")
	tells(t, b, "get 7", "none")
	tells(t, b, "snapshot", "handle 1")
	if len(b.Content()) != 0 {
		t.Error(b.Content())
	}
}
