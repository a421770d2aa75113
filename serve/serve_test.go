package serve_test

import (
	"math"
	"reflect"
	"runtime"
	"slices"
	"testing"
	"time"

	"shutter/api"
	"shutter/script"
	"shutter/serve"
)

func config() api.Config {
	return api.Config{Cells: 4000, Slots: 2, Stamps: 100, Multi: 4}
}

// ops are operations, each by its text.
func ops(t *testing.T, texts ...string) []api.Op {
	t.Helper()
	var l []api.Op
	for _, text := range texts {
		op, errno := script.ParseOp(text)
		if errno != api.OK {
			t.Fatal(text, errno)
		}
		l = append(l, op)
	}
	return l
}

// way is one of the ways in which clients are served to their ends.
type way struct {
	name string
	run  func(c api.Config, workers int, clients [][]api.Op) ([][]api.Answer, api.Errno)
}

func ways() []way {
	return []way{
		{"Run", serve.Run},
		{"Until", func(c api.Config, workers int, clients [][]api.Op) ([][]api.Answer, api.Errno) {
			return serve.Until(c, workers, clients, math.MaxInt)
		}},
		{"Feed", func(c api.Config, workers int, clients [][]api.Op) ([][]api.Answer, api.Errno) {
			l, _, errno := serve.Feed(c, workers, clients, 2)
			return l, errno
		}},
	}
}

// lengths are how many answers each client was told.
func lengths(l [][]api.Answer) []int {
	var n []int
	for _, told := range l {
		n = append(n, len(told))
	}
	return n
}

// check checks that each client was told these, by their texts.
func check(t *testing.T, clients [][]api.Op, l [][]api.Answer, want [][]string) {
	t.Helper()
	if len(l) != len(want) {
		t.Fatal(len(l), len(want))
	}
	for i, told := range l {
		if len(told) != len(want[i]) {
			t.Fatalf("client %d: %+v", i, told)
		}
		for k, a := range told {
			if got := script.PrintAnswer(clients[i][k].Kind, a); got != want[i][k] {
				t.Errorf("client %d: %+v: %s, not %s", i, clients[i][k], got, want[i][k])
			}
		}
	}
}

// Example 1.
func TestExampleOfClients(t *testing.T) {
	clients := [][]api.Op{ops(t, "put 7 1", "get 7"), ops(t, "put 8 2", "get 8")}
	for range 20 {
		for _, w := range ways() {
			l, errno := w.run(config(), 1, clients)
			if errno != api.OK {
				t.Fatal(w.name, errno)
			}
			check(t, clients, l, [][]string{{"none", "found 1"}, {"none", "found 2"}})
		}
		l, errno := serve.Until(config(), 1, clients, 3)
		if n := lengths(l); errno != api.OK || len(n) != 2 || n[0]+n[1] != 3 {
			t.Error(n, errno)
		}
	}
}

// Example 2.
func TestExampleOfRows(t *testing.T) {
	for range 20 {
		l, errno := serve.Merge([][]uint64{{1, 2, 3}, {4, 5}})
		if errno != api.OK || len(l) != 5 {
			t.Fatal(l, errno)
		}
		at := func(n uint64) int { return slices.Index(l, n) }
		if at(1) < 0 || at(1) > at(2) || at(2) > at(3) || at(4) < 0 || at(4) > at(5) {
			t.Error(l)
		}
		rows, errno := serve.Split([]uint64{1, 2, 3}, 2)
		if errno != api.OK || len(rows) != 2 || !slices.IsSorted(rows[0]) || !slices.IsSorted(rows[1]) {
			t.Fatal(rows, errno)
		}
		all := slices.Concat(rows...)
		slices.Sort(all)
		if !slices.Equal(all, []uint64{1, 2, 3}) {
			t.Error(rows)
		}
	}
}

// P26.1, P26.6: errors, each ahead of those that are named behind it.
func TestErrors(t *testing.T) {
	short := config()
	short.Cells, short.Slots = 128, 63
	many := make([][]api.Op, api.MaxFree+1)
	long := [][]api.Op{nil, make([]api.Op, api.MaxCalls+1)}
	for _, x := range []struct {
		name         string
		config       api.Config
		workers      int
		clients      [][]api.Op
		watchers     int
		served, want api.Errno // of Run and Until; of Feed
	}{
		{"nothing wrong", config(), 1, nil, 0, api.OK, api.OK},
		{"no config", api.Config{}, 1, nil, 0, api.ErrRange, api.ErrRange},
		{"no room", short, 1, nil, 0, api.ErrMemory, api.ErrMemory},
		{"no room, ahead of all", short, 0, many, -1, api.ErrMemory, api.ErrMemory},
		{"no workers", config(), 0, nil, 0, api.ErrRange, api.ErrRange},
		{"workers below 0", config(), -1, nil, 0, api.ErrRange, api.ErrRange},
		{"fewest workers", config(), math.MinInt, nil, 0, api.ErrRange, api.ErrRange},
		{"too many workers", config(), api.MaxFree + 1, nil, 0, api.ErrRange, api.ErrRange},
		{"all workers", config(), api.MaxFree, nil, 0, api.OK, api.OK},
		{"workers ahead of clients", config(), 0, many, 0, api.ErrRange, api.ErrRange},
		{"too many clients", config(), 1, many, 0, api.ErrLong, api.ErrLong},
		{"too long a client", config(), 1, long, 0, api.ErrLong, api.ErrLong},
		{"clients ahead of watchers", config(), 1, many, -1, api.ErrLong, api.ErrLong},
		{"operations ahead of watchers", config(), 1, long, api.MaxFree + 1, api.ErrLong, api.ErrLong},
		{"all clients", config(), 1, many[1:], 1, api.OK, api.OK},
		{"watchers below 0", config(), 1, nil, -1, api.OK, api.ErrRange},
		{"fewest watchers", config(), 1, nil, math.MinInt, api.OK, api.ErrRange},
		{"too many watchers", config(), 1, nil, api.MaxFree + 1, api.OK, api.ErrRange},
		{"all watchers", config(), 1, nil, api.MaxFree, api.OK, api.OK},
	} {
		for _, most := range []int{0, 5} {
			l, errno := serve.Until(x.config, x.workers, x.clients, most)
			if errno != x.served || errno != api.OK && len(l) != 0 {
				t.Error("Until:", x.name, errno, len(l))
			}
		}
		l, errno := serve.Run(x.config, x.workers, x.clients)
		if errno != x.served || errno != api.OK && len(l) != 0 || errno == api.OK && len(l) != len(x.clients) {
			t.Error("Run:", x.name, errno, len(l))
		}
		l, feeds, errno := serve.Feed(x.config, x.workers, x.clients, x.watchers)
		if errno != x.want || errno != api.OK && (len(l) != 0 || len(feeds) != 0) {
			t.Error("Feed:", x.name, errno, len(l), len(feeds))
		}
		if errno == api.OK && (len(l) != len(x.clients) || len(feeds) != x.watchers) {
			t.Error("Feed:", x.name, len(l), len(feeds))
		}
	}
}

// P26.1: as many clients, operations and workers as may be.
func TestAllThatMayBe(t *testing.T) {
	c := config()
	c.Cells = 1 << 17
	for _, w := range ways() {
		one := slices.Repeat(ops(t, "put 7 1"), api.MaxCalls)
		l, errno := w.run(c, api.MaxFree, [][]api.Op{nil, one, {}})
		if errno != api.OK || !slices.Equal(lengths(l), []int{0, api.MaxCalls, 0}) {
			t.Error(w.name, errno, lengths(l))
		}
		l, errno = w.run(c, 3, slices.Repeat([][]api.Op{ops(t, "put 7 1", "get 7")}, api.MaxFree))
		if errno != api.OK || !slices.Equal(lengths(l), slices.Repeat([]int{2}, api.MaxFree)) {
			t.Error(w.name, errno, lengths(l))
		}
	}
}

// P26.1: operations of all kinds, kinds that are none, and what goes wrong, by one client.
func TestKinds(t *testing.T) {
	clients := [][]api.Op{append(ops(t,
		"get 7", "put 7 1", "put 7 2", "swap 7 1 5", "swap 7 2 5", "get 7", "delete 7", "delete 7", "put 9 3", "snapshot", "put 9 4",
		"multiget @0.9 9 8 9", "multiget @0.9 1 2 3 4 5", "range @0.9 0 8", "range @0.9 0 9", "count @0.9 0 9", "release @0.9", "release @0.9", "count 0 0 9"),
		api.Op{}, api.Op{Kind: api.Collect + 1}, api.Op{Kind: 255, Key: 7})}
	want := []string{
		"none", "none", "found 1", "found 2", "done 2", "found 5", "found 5", "none", "none", "handle 1", "found 3",
		"pairs 9:3 9:3", "errno 6", "pairs", "pairs 9:3", "count 1", "ok", "errno 33", "errno 33",
		"errno 160", "errno 160", "errno 160"}
	for workers := 1; workers < 5; workers++ {
		l, errno := serve.Run(config(), workers, clients)
		if errno != api.OK {
			t.Fatal(errno)
		}
		check(t, clients, l, [][]string{want})
	}
}

// P26.1: Refs: to calls that were told, to such as come later, and to none.
func TestRefs(t *testing.T) {
	c := config()
	c.Slots = 8
	own := ops(t, "put 7 1", "snapshot", "put 7 2", "range @0.1 0 9", "count @0.0 0 9", "count @0.5 0 9", "count @0.6 0 9", "count @0.99 0 9", "count @1.0 0 9", "count @5.0 0 9", "release @0.1", "count @0.1 0 9")
	for _, ref := range []api.Ref{{Set: true, Index: -1}, {Set: true, Index: math.MinInt}, {Set: true, Thread: -1, Index: 1}, {Set: true, Thread: 2, Index: 1}, {Set: true, Thread: math.MaxInt, Index: math.MaxInt}} {
		own = append(own, api.Op{Kind: api.Count, Handle: 1, Ref: ref})
	}
	// A Ref that is not Set plays no part; one that is goes ahead of a Handle.
	own = append(own, api.Op{Kind: api.Snapshot}, api.Op{Kind: api.Count, Ref: api.Ref{Set: true, Index: len(own)}, Handle: 5, Hi: 9}, api.Op{Kind: api.Release, Handle: 65537, Ref: api.Ref{Index: 3}})
	clients := [][]api.Op{own, nil}
	l, errno := serve.Run(c, 2, clients)
	if errno != api.OK {
		t.Fatal(errno)
	}
	want := append([]string{"none", "handle 1", "found 1", "pairs 7:1"}, slices.Repeat([]string{"errno 33"}, 6)...)
	want = append(append(want, "ok"), slices.Repeat([]string{"errno 33"}, 6)...)
	check(t, clients, l, [][]string{append(want, "handle 65537", "count 1", "ok"), {}})
}

// P26.1: a Ref to a call of another client is its handle, when that was told it, and 0 ahead of it: once it is told, it stays so.
func TestRefsToOthers(t *testing.T) {
	const looks = 200
	var hits, misses [3]int // by the number of the client that takes the picture
	for round := range 600 {
		who := round % 3
		clients := make([][]api.Op, 3)
		look := api.Op{Kind: api.Count, Ref: api.Ref{Set: true, Thread: who, Index: 1}, Hi: 9}
		clients[who], clients[(who+1)%3] = ops(t, "put 7 1", "snapshot"), slices.Repeat([]api.Op{look}, looks)
		l, errno := serve.Run(config(), 2, clients)
		if errno != api.OK || len(l) != 3 || len(l[who]) != 2 || len(l[(who+1)%3]) != looks {
			t.Fatal(l, errno)
		}
		held := false
		for _, a := range l[(who+1)%3] {
			switch {
			case reflect.DeepEqual(a, api.Answer{Count: 1}):
				held = true
				hits[who]++
			case held || !reflect.DeepEqual(a, api.Answer{Errno: api.ErrHandle}):
				t.Fatalf("%+v", l)
			default:
				misses[who]++
			}
		}
	}
	if manyCores() && (slices.Min(hits[:]) == 0 || slices.Max(misses[:]) == 0) {
		t.Error("handles of another client:", hits, "; not yet told:", misses)
	}
}

// P3: what is handed in stays, spare room too; what is told is the caller's.
func TestLists(t *testing.T) {
	for _, w := range ways() {
		keys := []uint64{7, 8, 9, 9}
		multi := api.Op{Kind: api.MultiGet, Ref: api.Ref{Set: true, Index: 1}, Keys: keys[:2]}
		client := append(ops(t, "put 7 1", "snapshot"), multi, multi, api.Op{Kind: 99})
		clients := [][]api.Op{client[:4], client[4:]}
		c := config()
		c.Stamps = 1 << 30
		l, errno := w.run(c, 2, clients[:1])
		if errno != api.OK || len(l) != 1 || len(l[0]) != 4 || len(l[0][2].Pairs) != 1 {
			t.Fatal(w.name, l, errno)
		}
		l[0][2].Pairs[0] = api.Pair{}
		_ = append(l[0][2].Pairs, api.Pair{Key: 5})
		if !slices.Equal(l[0][3].Pairs, []api.Pair{{Key: 7, Value: 1}}) {
			t.Errorf("%s: %+v", w.name, l)
		}
		if !slices.Equal(keys, []uint64{7, 8, 9, 9}) || !reflect.DeepEqual(client[2], multi) || client[4].Kind != 99 || len(clients[1]) != 1 {
			t.Error(w.name, keys, client, clients)
		}
		_ = append(l[0], api.Answer{Count: 5})
		_ = append(l, nil)
	}
}

// P3: of rows.
func TestListsOfRows(t *testing.T) {
	row := []uint64{1, 2, 3, 99}
	rows := [][]uint64{row[:3], nil, row[:2]}
	l, _ := serve.Merge(rows[:1])
	for i := range l {
		l[i] = 0
	}
	_ = append(l, 5)
	got, _ := serve.Split(row[:3], 1)
	got[0][0] = 7
	_ = append(got[0], 5)
	if !slices.Equal(row, []uint64{1, 2, 3, 99}) || len(rows[2]) != 2 {
		t.Error(row, rows)
	}
	got, _ = serve.Split(row, 3)
	for i := range got {
		// Another one's would be written over.
		_ = append(got[i], 77, 77, 77)
	}
	all := slices.Concat(got...)
	slices.Sort(all)
	if !slices.Equal(all, []uint64{1, 2, 3, 99}) {
		t.Error(got)
	}
}

// P6: all goroutines have ended.
func TestAllHaveEnded(t *testing.T) {
	before := runtime.NumGoroutine()
	for range 20 {
		clients := slices.Repeat([][]api.Op{ops(t, "put 7 1", "get 7")}, 10)
		for _, w := range ways() {
			w.run(config(), 10, clients)
		}
		serve.Until(config(), 10, clients, 3)
		serve.Until(config(), 10, clients, 0)
		serve.Feed(config(), 0, clients, 10)
		serve.Feed(config(), 10, clients, -1)
		serve.Merge([][]uint64{{1, 2, 3}, {4, 5}})
		serve.Split([]uint64{1, 2, 3}, 10)
	}
	for range 200 {
		if runtime.NumGoroutine() <= before {
			return
		}
		time.Sleep(5 * time.Millisecond) // one that is through with its work may still be there for a moment
	}
	t.Error(before, "goroutines ahead,", runtime.NumGoroutine(), "behind")
}
