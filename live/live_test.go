package live_test

import (
	"math"
	"reflect"
	"runtime"
	"slices"
	"sync"
	"testing"
	"time"

	"shutter/api"
	"shutter/live"
	"shutter/script"
	"shutter/store"
)

// P22.1, example 1.
func TestOneThread(t *testing.T) {
	threads := [][]api.Op{ops(t, "put 7 1", "get 7")}
	for _, w := range ways() {
		l, content, errno := w.run(config(), threads)
		want := []api.Did{
			{Span: api.Span{Thread: 0, Index: 0, From: 0, To: 1}, Op: threads[0][0]},
			{Span: api.Span{Thread: 0, Index: 1, From: 2, To: 3}, Op: threads[0][1], Answer: api.Answer{Found: true, Value: 1}},
		}
		if errno != api.OK || !reflect.DeepEqual(l, want) || !slices.Equal(content, []api.Pair{{Key: 7, Value: 1}}) {
			t.Errorf("%s: %+v %v %d", w.name, l, content, errno)
		}
	}
}

// P22.1, example 2.
func TestTwoThreads(t *testing.T) {
	threads := [][]api.Op{ops(t, "put 7 1"), ops(t, "put 7 1")}
	for range 50 {
		for _, w := range ways() {
			l, content, errno := w.run(config(), threads)
			if errno != api.OK || len(l) != 2 || !slices.Equal(content, []api.Pair{{Key: 7, Value: 1}}) {
				t.Fatalf("%s: %+v %v %d", w.name, l, content, errno)
			}
			if l[0].Answer.Found == l[1].Answer.Found || l[0].Answer.Value+l[1].Answer.Value != 1 {
				t.Fatalf("%s: %+v", w.name, l)
			}
		}
	}
}

// P22.1: nobody, and nobody who does anything.
func TestNoOperations(t *testing.T) {
	for _, threads := range [][][]api.Op{nil, {}, {nil}, {nil, {}, nil}, make([][]api.Op, api.MaxFree)} {
		for _, w := range ways() {
			if l, content, errno := w.run(config(), threads); errno != api.OK || len(l) != 0 || len(content) != 0 {
				t.Errorf("%s: %+v %v %d", w.name, l, content, errno)
			}
		}
	}
}

// wrongConfigs are Configs that store.NewLive does not take.
func wrongConfigs() []api.Config {
	c := config()
	l := []api.Config{{}, {Cells: 128, Slots: 63, Stamps: 1, Multi: 1}, c, c, c, c}
	l[2].Cells = api.MaxCells + 1
	l[3].Slots = api.MaxSlots + 1
	l[4].Stamps = 0
	l[5].Multi = -1
	return l
}

// P22.1, P22.6, P22.7: errors, and which comes first.
func TestErrors(t *testing.T) {
	c := config()
	many := make([][]api.Op, api.MaxFree+1)
	long := [][]api.Op{nil, make([]api.Op, api.MaxCalls+1)}
	none := func(name string, l []api.Did, content []api.Pair, errno, want api.Errno) {
		t.Helper()
		if errno != want || len(l) != 0 || len(content) != 0 {
			t.Errorf("%s: %d, but %d", name, errno, want)
		}
	}
	for _, w := range ways() {
		for _, wrong := range wrongConfigs() {
			_, want := store.NewLive(wrong)
			l, content, errno := w.run(wrong, many)
			none(w.name, l, content, errno, want)
		}
		for _, threads := range [][][]api.Op{many, long} {
			l, content, errno := w.run(c, threads)
			none(w.name, l, content, errno, api.ErrLong)
		}
	}
	for _, collectors := range []int{math.MinInt, -1, api.MaxFree + 1, math.MaxInt} {
		l, content, errno := live.Cleaned(c, nil, collectors)
		none("Cleaned", l, content, errno, api.ErrRange)
		l, content, errno = live.Cleaned(c, long, collectors)
		none("Cleaned", l, content, errno, api.ErrLong)
		l, content, errno = live.Cleaned(wrongConfigs()[1], long, collectors)
		none("Cleaned", l, content, errno, api.ErrMemory)
	}
}

// P22.8: errors, and which comes first.
func TestWatchErrors(t *testing.T) {
	c, long := config(), make([]api.Op, api.MaxCalls+1)
	check := func(c api.Config, ops []api.Op, readers int, want api.Errno) {
		t.Helper()
		if l, seen, errno := live.Watch(c, ops, readers); errno != want || len(l) != 0 || len(seen) != 0 {
			t.Errorf("%d, but %d", errno, want)
		}
	}
	for _, wrong := range wrongConfigs() {
		_, want := store.NewLive(wrong)
		check(wrong, long, -1, want)
	}
	check(c, long, -1, api.ErrLong)
	check(c, long, 1, api.ErrLong)
	for _, readers := range []int{math.MinInt, -1, api.MaxFree + 1, math.MaxInt} {
		check(c, ops(t, "put 7 1"), readers, api.ErrRange)
	}
}

// P22.1: as many threads, and as many operations of one, as may be.
func TestAsManyAsMayBe(t *testing.T) {
	c := api.Config{Cells: 1 << 17, Slots: 2, Stamps: 100, Multi: 4}
	threads := make([][]api.Op, api.MaxFree)
	for i := range threads {
		threads[i] = []api.Op{{Kind: api.Put, Key: uint64(i), Value: 1}, {Kind: api.Get, Key: uint64(i)}}
	}
	threads[9] = slices.Repeat(threads[9], api.MaxCalls/2)
	for _, w := range ways() {
		l, content, errno := w.run(c, threads)
		if errno != api.OK || len(content) != api.MaxFree {
			t.Fatal(w.name, errno, len(content))
		}
		checkAll(t, threads, l)
		checkDids(t, threads, l)
		for i, pair := range content {
			if pair != (api.Pair{Key: uint64(i), Value: 1}) {
				t.Fatal(w.name, pair)
			}
		}
	}
	if l, _, errno := live.Cleaned(c, threads, api.MaxFree); errno != api.OK || len(l) != api.MaxCalls+2*(api.MaxFree-1) {
		t.Error(errno, len(l))
	}
	if _, seen, errno := live.Watch(c, threads[9], api.MaxFree); errno != api.OK || len(seen) != api.MaxFree {
		t.Error(errno, len(seen))
	}
}

// P1, P22.1: operations of kinds that are none, Refs to calls that are none, keys too many.
func TestStrangeOperations(t *testing.T) {
	ref := func(thread, index int) api.Op {
		return api.Op{Kind: api.Count, Handle: 9, Ref: api.Ref{Set: true, Thread: thread, Index: index}}
	}
	threads := [][]api.Op{{
		{}, {Kind: api.Collect + 1}, {Kind: math.MaxUint8},
		ref(0, 3), ref(0, 5), ref(0, -1), ref(-1, 0), ref(0, math.MaxInt), ref(math.MinInt, math.MaxInt), ref(1, 0), ref(2, 0), ref(0, 0),
		{Kind: api.MultiGet, Keys: make([]uint64, 5)},
		{Kind: api.Release, Handle: math.MaxUint64, Ref: api.Ref{Thread: 5, Index: -5}},
		{Kind: api.Get, Key: 1, Handle: 5, Keys: []uint64{7}, Ref: api.Ref{Set: true}},
	}, nil}
	for _, w := range ways() {
		l, _, errno := w.run(config(), threads)
		if errno != api.OK {
			t.Fatal(w.name, errno)
		}
		checkAll(t, threads, l)
		checkDids(t, threads, l)
		for i, d := range l {
			want := api.ErrHandle
			switch i {
			case 0, 1, 2:
				want = api.ErrOp
			case 12:
				want = api.ErrLong
			case 14:
				want = api.OK
			}
			if d.Answer.Errno != want {
				t.Errorf("%s: %+v", w.name, d)
			}
		}
	}
}

// P22.1: a Ref to a call that has returned, of the same thread and of another one.
func TestRefs(t *testing.T) {
	threads := [][]api.Op{
		ops(t, "put 7 1", "snapshot", "put 7 2", "range @0.1 0 9", "release @0.1", "count @0.1 0 9"),
		ops(t, "range @0.1 0 9", "range @0.1 0 9", "range @0.1 0 9", "range @0.1 0 9"),
	}
	for range 50 {
		l, _, errno := live.Rounds(config(), threads)
		if errno != api.OK {
			t.Fatal(errno)
		}
		checkDids(t, threads, l)
		for _, d := range l {
			told := d.Answer.Errno == api.OK && slices.Equal(d.Answer.Pairs, []api.Pair{{Key: 7, Value: 1}})
			switch at := d.Span; {
			case d.Op.Kind != api.Range:
			case at.Index == 0 && (d.Op.Handle != 0 || d.Answer.Errno != api.ErrHandle):
				t.Fatalf("ahead of it: %+v", d)
			case at.Index > 1 && (d.Op.Handle != 1 || !told):
				t.Fatalf("behind it: %+v", d)
			}
		}
	}
}

// P22.1: a handle that others ask for all the time: what returned ahead of a first ticket is known by then.
func TestRefsOfOthers(t *testing.T) {
	c := config()
	threads := [][]api.Op{append(slices.Repeat(ops(t, "put 7 1"), 20), api.Op{Kind: api.Snapshot})}
	for range 7 {
		threads = append(threads, slices.Repeat(ops(t, "count @0.20 5 3"), 150))
	}
	for range 500 {
		l, _, errno := live.Run(c, threads)
		if errno != api.OK {
			t.Fatal(errno)
		}
		checkAll(t, threads, l)
		checkDids(t, threads, l)
	}
}

// P22.3: one thread alone tells what store.Run tells.
func TestAlone(t *testing.T) {
	for seed := range uint64(150) {
		c := config()
		switch seed % 4 {
		case 1:
			c.Cells = 150
		case 2:
			c.Stamps = 2
		}
		s, _ := script.Draw(seed, c, 1, 40, 0)
		s.Picks = make([]int, 50000)
		r, _ := store.Run(s)
		for _, w := range ways() {
			if w.name == "Cleaned" {
				continue // what its own Collects tell is free
			}
			l, content, errno := w.run(c, s.Threads)
			if errno != api.OK || len(l) != len(r.Dids) {
				t.Fatal(w.name, seed, errno, len(l))
			}
			for i, d := range l {
				d.Span = r.Dids[i].Span
				if !reflect.DeepEqual(d, r.Dids[i]) || l[i].Span != (api.Span{Thread: 0, Index: i, From: 2 * i, To: 2*i + 1}) {
					t.Fatalf("%s: %+v, but %+v", w.name, l[i], r.Dids[i])
				}
			}
			if want := contentOf(c, r.Dids); !slices.Equal(content, want) {
				t.Fatalf("%s: %v, but %v", w.name, content, want)
			}
		}
	}
}

// contentOf is what a store holds on which operations were done, one behind the other.
func contentOf(c api.Config, l []api.Did) []api.Pair {
	s, _ := store.New(c)
	v := s.Memory().View(0)
	for _, d := range l {
		for call := s.Call(d.Op); !call.Step(v); {
		}
	}
	return s.Content()
}

// P3: what is handed in stays, spare room too; what is answered is the caller's.
func TestSharesNothing(t *testing.T) {
	keys := []uint64{7, 8, 9}
	thread := []api.Op{{Kind: api.Put, Key: 7, Value: 1}, {Kind: api.Snapshot}, {Kind: api.MultiGet, Keys: keys[:2], Ref: api.Ref{Set: true, Index: 1}}, {Kind: api.Collect}}
	threads := [][]api.Op{thread[:3], nil}
	stops := []int{1 << 30, 5}
	kept := slices.Clone(thread)
	check := func(name string, l []api.Did) {
		t.Helper()
		for _, d := range l {
			for i := range d.Op.Keys {
				d.Op.Keys[i] = 99
			}
			_ = append(d.Op.Keys, 98)
		}
		if !slices.Equal(keys, []uint64{7, 8, 9}) || !reflect.DeepEqual(thread, kept) || !slices.Equal(stops, []int{1 << 30, 5}) {
			t.Error(name, keys, thread)
		}
	}
	for _, w := range ways() {
		l, _, _ := w.run(config(), threads[:1])
		check(w.name, l)
	}
	l, _, _ := live.Crash(config(), threads[:1], stops[:1])
	check("Crash", l)
	l, seen, _ := live.Watch(config(), thread[:3], 2)
	check("Watch", l)
	if last := len(seen[0]) - 1; last >= 0 && len(seen[1]) > 0 {
		seen[0][last][0].Value = 99
		if other := seen[1][len(seen[1])-1]; other[0].Value != 1 {
			t.Error(other)
		}
	}
}

// P6: all goroutines have ended when the call ends.
func TestGoroutinesEnd(t *testing.T) {
	ahead := runtime.NumGoroutine()
	threads := [][]api.Op{ops(t, "put 7 1", "put 8 1"), ops(t, "put 7 2", "get 8", "collect"), nil}
	for range 20 {
		for _, w := range ways() {
			w.run(config(), threads)
		}
		live.Cleaned(config(), threads, 8)
		live.Crash(config(), threads, []int{3, 0})
		live.Watch(config(), threads[0], 8)
	}
	// One that has told that it has ended may take a moment to be gone.
	for range 500 {
		if runtime.NumGoroutine() <= ahead {
			return
		}
		time.Sleep(time.Millisecond)
	}
	t.Error(ahead, runtime.NumGoroutine())
}

// P7: calls of the package at one time, from many goroutines.
func TestCallsAtOneTime(t *testing.T) {
	c, threads := config(), [][]api.Op{ops(t, "put 7 1", "get 7", "snapshot", "multiget @0.2 7 8"), ops(t, "put 7 2", "collect")}
	told := make([][]api.Did, 8)
	held := make([][]api.Pair, 8)
	var all sync.WaitGroup
	for i := range told {
		all.Go(func() {
			w := ways()[i%len(ways())]
			told[i], held[i], _ = w.run(c, threads)
		})
	}
	all.Wait()
	for i, l := range told {
		checkAll(t, threads, l)
		checkDids(t, threads, l)
		checkShown(t, c, l, held[i])
	}
}
