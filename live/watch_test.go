package live_test

import (
	"slices"
	"testing"

	"shutter/api"
	"shutter/live"
)

// someWrites are a writer's operations, that change, collect, and take pictures.
func someWrites(count int) []api.Op {
	var l []api.Op
	for i := range count {
		key := uint64(i*i) % 20
		switch i % 7 {
		case 3:
			l = append(l, api.Op{Kind: api.Delete, Key: key})
		case 5:
			l = append(l, api.Op{Kind: api.Swap, Key: key, Old: uint64(i - 3), Value: uint64(i)})
		case 6:
			l = append(l, api.Op{Kind: api.Collect})
		default:
			l = append(l, api.Op{Kind: api.Put, Key: key, Value: uint64(i)})
		}
	}
	return l
}

// checkSeen checks that what a reader saw are maps that the writer left, none ahead of one that it saw earlier: how many unlike ones.
func checkSeen(t *testing.T, maps, seen [][]api.Pair) int {
	t.Helper()
	at, unlike := 0, 0
	for i, picture := range seen {
		ahead := at
		for at < len(maps) && !slices.Equal(maps[at], picture) {
			at++
		}
		if at == len(maps) {
			t.Fatalf("the picture %d of %d, behind the map %d: %v", i, len(seen), ahead, picture)
		}
		if at > ahead {
			unlike++
		}
	}
	return unlike
}

// P22.8, P22.11 (E2): one writer, readers that take pictures.
func TestWatch(t *testing.T) {
	c := api.Config{Cells: 1 << 17, Slots: 8, Stamps: 1 << 30, Multi: 4}
	unlike := 0
	for round := range 40 {
		writes := someWrites(round * 40)
		readers := round % 7
		l, seen, errno := live.Watch(c, writes, readers)
		if errno != api.OK || len(seen) != readers {
			t.Fatal(errno, len(seen))
		}
		checkAll(t, [][]api.Op{writes}, l)
		checkDids(t, [][]api.Op{writes}, l)
		maps := mapsOf(c, l)
		for _, pictures := range seen {
			unlike += checkSeen(t, maps, pictures)
			// There are slots and stamps for all: so the last picture told something.
			if n := len(pictures); n == 0 || !slices.Equal(pictures[n-1], maps[len(maps)-1]) {
				t.Fatalf("the last picture of %d is not what is there: %v", n, maps[len(maps)-1])
			}
		}
	}
	if unlike < 20 {
		t.Error("maps that were seen on their way:", unlike)
	}
}

// P22.8: nothing is done: each reader takes a picture at least, of nothing.
func TestWatchOfNothing(t *testing.T) {
	c := config()
	c.Slots = 8
	for _, writes := range [][]api.Op{nil, {}} {
		l, seen, errno := live.Watch(c, writes, 3)
		if errno != api.OK || len(l) != 0 || len(seen) != 3 {
			t.Fatal(errno, l, seen)
		}
		for _, pictures := range seen {
			if len(pictures) == 0 || checkSeen(t, [][]api.Pair{nil}, pictures) != 0 {
				t.Error(pictures)
			}
		}
	}
	if l, seen, errno := live.Watch(c, ops(t, "put 7 1"), 0); errno != api.OK || len(l) != 1 || len(seen) != 0 {
		t.Error(errno, l, seen)
	}
}

// P22.8: handles are let go: of the one slot that is left, a reader's pictures are many; and keys at both ends of all are seen.
func TestWatchLetsGo(t *testing.T) {
	c := api.Config{Cells: 1 << 17, Slots: 2, Stamps: 1 << 30, Multi: 4}
	// One slot is the writer's own; its Counts take so long that the reader comes to its turn.
	writes := ops(t, "snapshot", "put 0 1", "put 18446744073709551615 2")
	writes = append(writes, slices.Repeat(ops(t, "count @0.0 0 9"), 4000)...)
	most := 0
	for range 50 {
		l, seen, errno := live.Watch(c, writes, 1)
		if errno != api.OK {
			t.Fatal(errno)
		}
		pictures := seen[0]
		checkSeen(t, mapsOf(c, l), pictures)
		if n := len(pictures); n == 0 || !slices.Equal(pictures[n-1], []api.Pair{{Key: 0, Value: 1}, {Key: 1<<64 - 1, Value: 2}}) {
			t.Fatal(pictures)
		}
		if most = max(most, len(pictures)); most > 3 {
			return
		}
	}
	t.Error("pictures at most:", most)
}

// P22.8: pictures that told an error are none: no slot, no stamp, a handle that the writer lets go.
func TestWatchErrorsAreNone(t *testing.T) {
	c := api.Config{Cells: 1 << 17, Slots: 1, Stamps: 5, Multi: 4}
	for range 30 {
		writes := append(someWrites(200), slices.Repeat(ops(t, "release 1", "release 65537", "snapshot"), 50)...)
		l, seen, errno := live.Watch(c, writes, 3)
		if errno != api.OK {
			t.Fatal(errno)
		}
		checkDids(t, [][]api.Op{writes}, l)
		pictures := 0
		for _, s := range seen {
			checkSeen(t, mapsOf(c, l), s)
			pictures += len(s)
		}
		if pictures > 4 {
			t.Fatal("more pictures than stamps:", pictures)
		}
	}
	c.Stamps = 1
	if _, seen, errno := live.Watch(c, ops(t, "put 7 1"), 2); errno != api.OK || len(seen[0])+len(seen[1]) != 0 {
		t.Error(errno, seen)
	}
}

// P22.8: a picture whose handle is let go while it is looked at is none: it would be empty, behind others that are not.
func TestWatchLeavesStaleOut(t *testing.T) {
	c := api.Config{Cells: 1 << 17, Slots: 2, Stamps: 1 << 30, Multi: 4}
	// The writer has the slot 0; so the reader's handles are those of the slot 1, one generation behind the other. The writer comes by all of them, faster than the reader does.
	writes := append(ops(t, "snapshot", "put 7 1"), slices.Repeat(ops(t, "count @0.0 0 9"), 500)...)
	for gen := range uint64(3500) {
		writes = append(writes, api.Op{Kind: api.Release, Handle: gen<<16 + 2})
	}
	hit := 0
	for range 40 {
		l, seen, errno := live.Watch(c, writes, 1)
		if errno != api.OK {
			t.Fatal(errno)
		}
		checkSeen(t, mapsOf(c, l), seen[0])
		hit += len(slices.DeleteFunc(l, func(d api.Did) bool { return d.Op.Kind != api.Release || d.Answer.Errno != api.OK }))
	}
	if manyCores() && hit == 0 {
		t.Error("the writer has let no handle go")
	}
}

// P22.8: a Ref of the writer is to its own calls.
func TestWatchRefs(t *testing.T) {
	c := config()
	c.Slots, c.Stamps = 4, 1<<30
	writes := ops(t, "put 7 1", "snapshot", "put 7 2", "range @0.1 0 9", "count @1.0 0 9", "release @0.1")
	l, _, errno := live.Watch(c, writes, 2)
	if errno != api.OK || len(l) != 6 {
		t.Fatal(errno, l)
	}
	checkDids(t, [][]api.Op{writes}, l)
	if !slices.Equal(l[3].Answer.Pairs, []api.Pair{{Key: 7, Value: 1}}) || l[4].Answer.Errno != api.ErrHandle || l[5].Answer.Errno != api.OK {
		t.Errorf("%+v", l)
	}
}
