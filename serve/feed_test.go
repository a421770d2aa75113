package serve_test

import (
	"math/rand"
	"slices"
	"testing"

	"shutter/api"
	"shutter/model"
	"shutter/serve"
)

// spacious is a store that is never short of anything, but maybe of slots.
func spacious() api.Config {
	return api.Config{Cells: 1 << 18, Slots: 4, Stamps: 1 << 40, Multi: 4}
}

// after are the maps that batches lead to, one behind the other, from nothing on; it checks that each batch is one (P26.7).
func after(t *testing.T, batches [][]serve.Change) [][]api.Pair {
	t.Helper()
	now := map[uint64]uint64{}
	var maps [][]api.Pair
	for _, batch := range batches {
		if len(batch) == 0 {
			t.Fatal("an empty batch")
		}
		for i, c := range batch {
			if i > 0 && batch[i-1].Key >= c.Key {
				t.Fatal("keys do not rise:", batch)
			}
			value, there := now[c.Key]
			switch {
			case c.Gone && (!there || c.Value != 0):
				t.Fatal("gone, where nothing was, or with a value:", batch, now)
			case !c.Gone && there && value == c.Value:
				t.Fatal("no change:", batch, now)
			case c.Gone:
				delete(now, c.Key)
			default:
				now[c.Key] = c.Value
			}
		}
		var pairs []api.Pair
		for key, value := range now {
			pairs = append(pairs, api.Pair{Key: key, Value: value})
		}
		slices.SortFunc(pairs, func(a, b api.Pair) int {
			if a.Key < b.Key {
				return -1
			}
			return 1
		})
		maps = append(maps, pairs)
	}
	return maps
}

// checkFeeds checks that all watchers were sent the same batches, and that these lead to what is there in the end: the maps that they lead to.
func checkFeeds(t *testing.T, feeds [][][]serve.Change, watchers int, end []api.Pair) [][]api.Pair {
	t.Helper()
	if len(feeds) != watchers {
		t.Fatal(len(feeds), watchers)
	}
	for _, batches := range feeds {
		if !slices.EqualFunc(batches, feeds[0], slices.Equal[[]serve.Change]) {
			t.Fatal("not all were sent the same")
		}
	}
	if watchers == 0 {
		return nil
	}
	maps := after(t, feeds[0])
	var last []api.Pair
	if len(maps) > 0 {
		last = maps[len(maps)-1]
	}
	if !slices.Equal(last, end) {
		t.Fatalf("the batches lead to %v, not %v", last, end)
	}
	return maps
}

// mapsOf are what the operations of one client leave, one behind the other, the empty map first.
func mapsOf(t *testing.T, client []api.Op, told []api.Answer) [][]api.Pair {
	t.Helper()
	m, _ := model.New(4)
	maps := [][]api.Pair{nil}
	for i, op := range withHandles(client, told) {
		if !changes(op.Kind) {
			continue
		}
		if !m.Take(op, told[i]) {
			t.Fatalf("%+v may not tell %+v", op, told[i])
		}
		maps = append(maps, m.Content())
	}
	return maps
}

func changes(kind api.OpKind) bool {
	return kind == api.Put || kind == api.Delete || kind == api.Swap
}

// checkOnTheWay checks that maps that batches led to are such as one client left, none ahead of an earlier one.
func checkOnTheWay(t *testing.T, seen, left [][]api.Pair) {
	t.Helper()
	at := 0
	for i, picture := range seen {
		for at < len(left) && !slices.Equal(left[at], picture) {
			at++
		}
		if at == len(left) {
			t.Fatalf("the batch %d of %d leads to no map that was left: %v", i, len(seen), picture)
		}
	}
}

// P26.6: without stamps no picture is taken: one batch, of what is there in the end, in which nothing is told that was there on the way.
func TestFeedInTheEnd(t *testing.T) {
	c := config()
	c.Stamps = 1
	clients := [][]api.Op{ops(t, "put 7 1", "put 7 2", "put 18446744073709551615 5", "put 9 9", "delete 9"), ops(t, "put 0 0", "get 7"), nil}
	for watchers := range 4 {
		l, feeds, errno := serve.Feed(c, 2, clients, watchers)
		if errno != api.OK || !slices.Equal(lengths(l), []int{5, 2, 0}) || len(feeds) != watchers {
			t.Fatal(errno, l, feeds)
		}
		for _, batches := range feeds {
			want := []serve.Change{{Key: 0, Value: 0}, {Key: 7, Value: 2}, {Key: 1<<64 - 1, Value: 5}}
			if len(batches) != 1 || !slices.Equal(batches[0], want) {
				t.Error(batches)
			}
		}
	}
}

// P26.6: nothing is sent where nothing is there, ever, or in the end.
func TestFeedOfNothing(t *testing.T) {
	for _, clients := range [][][]api.Op{nil, {nil, nil}, {ops(t, "get 7", "delete 7", "swap 7 0 1", "collect")}} {
		_, feeds, errno := serve.Feed(spacious(), 3, clients, 2)
		if errno != api.OK {
			t.Fatal(errno)
		}
		if checkFeeds(t, feeds, 2, nil) != nil {
			t.Error(feeds)
		}
	}
	c := config()
	c.Stamps = 1
	if _, feeds, errno := serve.Feed(c, 1, [][]api.Op{ops(t, "put 7 1", "delete 7")}, 2); errno != api.OK || len(feeds[0])+len(feeds[1]) != 0 {
		t.Error(feeds, errno)
	}
}

// P26.7: clients that use no keys of one another: what each is told, and what watchers are sent.
func TestFeedOfClientsApart(t *testing.T) {
	for seed := range int64(60) {
		clients := clientsApart(seed, 1+int(seed%8), 200)
		watchers := int(seed % 4)
		l, feeds, errno := serve.Feed(spacious(), 1+int(seed%5), clients, watchers)
		if errno != api.OK {
			t.Fatal(errno)
		}
		for i, told := range l {
			if len(told) != len(clients[i]) {
				t.Fatal(len(told), len(clients[i]))
			}
		}
		end, short := checkApart(t, clients, l)
		if short > 0 {
			t.Fatal(short)
		}
		checkFeeds(t, feeds, watchers, end)
	}
}

// P26.7 (E2): one client alone: each batch leads to a map that its operations left; some are seen on their way, keys that are gone among them.
func TestFeedOfOneClient(t *testing.T) {
	onTheWay, gone := 0, 0
	for seed := range int64(400) {
		r := rand.New(rand.NewSource(seed))
		client := changesOf(r, 0, 1, 400)
		if seed%2 == 0 {
			client = alone(r, 400) // handles of its own, let go, and Collects
		}
		l, feeds, errno := serve.Feed(spacious(), 1+int(seed%3), [][]api.Op{client}, 1)
		if errno != api.OK || len(l) != 1 || len(l[0]) != len(client) {
			t.Fatal(errno, lengths(l))
		}
		left := mapsOf(t, client, l[0])
		seen := checkFeeds(t, feeds, 1, left[len(left)-1])
		checkOnTheWay(t, seen, left)
		onTheWay += max(0, len(seen)-1)
		for _, batch := range feeds[0] {
			if slices.ContainsFunc(batch, func(c serve.Change) bool { return c.Gone }) {
				gone++
			}
		}
		if seed > 30 && onTheWay > 100 && gone > 20 {
			return
		}
	}
	t.Error("maps that were seen on their way:", onTheWay, "; batches with keys that are gone:", gone)
}

// P26.6: pictures are let go: of one slot there are many; with few stamps, no more than these, and the end.
func TestFeedLetsGo(t *testing.T) {
	c := spacious()
	c.Slots = 1
	most := 0
	for seed := range int64(400) {
		client := changesOf(rand.New(rand.NewSource(seed)), 0, 1, 1000)
		l, feeds, errno := serve.Feed(c, 1, [][]api.Op{client}, 2)
		if errno != api.OK {
			t.Fatal(errno)
		}
		left := mapsOf(t, client, l[0])
		checkOnTheWay(t, checkFeeds(t, feeds, 2, left[len(left)-1]), left)
		if most = max(most, len(feeds[0])); most > 5 {
			break
		}
	}
	if most <= 5 {
		t.Error("batches at most:", most)
	}
	c.Stamps = 4
	for seed := range int64(40) {
		client := changesOf(rand.New(rand.NewSource(seed)), 0, 1, 500)
		l, feeds, errno := serve.Feed(c, 1, [][]api.Op{client}, 2)
		if errno != api.OK || len(feeds[0]) > 4 {
			t.Fatal(errno, len(feeds[0]))
		}
		left := mapsOf(t, client, l[0])
		checkOnTheWay(t, checkFeeds(t, feeds, 2, left[len(left)-1]), left)
	}
}

// P26.6, P26.7: a picture whose handle is let go while it is looked at is none: it would be empty, behind others that are not.
func TestFeedLeavesStaleOut(t *testing.T) {
	c := spacious()
	c.Slots = 2
	hit := 0
	for range 60 {
		// The client has the slot 0; so the publisher's handles are those of the slot 1, one generation behind the other. The client comes by many of them.
		client := ops(t, "snapshot", "put 7 1", "put 8 1")
		for gen := range uint64(3000) {
			client = append(client, api.Op{Kind: api.Release, Handle: gen<<16 + 2})
		}
		l, feeds, errno := serve.Feed(c, 1, [][]api.Op{client}, 1)
		if errno != api.OK {
			t.Fatal(errno)
		}
		maps := checkFeeds(t, feeds, 1, []api.Pair{{Key: 7, Value: 1}, {Key: 8, Value: 1}})
		checkOnTheWay(t, maps, [][]api.Pair{nil, {{Key: 7, Value: 1}}, {{Key: 7, Value: 1}, {Key: 8, Value: 1}}})
		for _, a := range l[0][3:] {
			if a.Errno == api.OK {
				hit++
			}
		}
	}
	if manyCores() && hit == 0 {
		t.Error("the client has let no handle go")
	}
}

// P3: no two lists of what is told share anything.
func TestFeedLists(t *testing.T) {
	clients := [][]api.Op{ops(t, "put 7 1", "put 8 2")}
	_, feeds, errno := serve.Feed(spacious(), 1, clients, 3)
	if errno != api.OK || len(feeds) != 3 || len(feeds[0]) == 0 {
		t.Fatal(feeds, errno)
	}
	for _, batch := range feeds[0] {
		for k := range batch {
			batch[k] = serve.Change{Key: 99}
		}
		_ = append(batch, serve.Change{Key: 99})
	}
	_ = append(feeds[0], nil)
	checkFeeds(t, feeds[1:], 2, []api.Pair{{Key: 7, Value: 1}, {Key: 8, Value: 2}})
}
