package lin_test

import (
	"math"
	"math/rand"
	"slices"
	"testing"

	"shutter/api"
	"shutter/hist"
	"shutter/lin"
)

func checkKeys(t *testing.T, l []api.Did, want ...uint64) {
	t.Helper()
	if keys := lin.Keys(l); !slices.Equal(keys, want) {
		t.Errorf("Keys: %v, not %v%s", keys, want, text(l))
	}
}

func checkLocal(t *testing.T, l []api.Did, want bool, wantErrno api.Errno) {
	t.Helper()
	if is, errno := lin.Local(l); is != want || errno != wantErrno {
		t.Errorf("Local: %t, %d, not %t, %d%s", is, errno, want, wantErrno, text(l))
	}
}

func checkShortest(t *testing.T, l []api.Did, want int, wantErrno api.Errno) {
	t.Helper()
	if step, errno := lin.Shortest(l); step != want || errno != wantErrno {
		t.Errorf("Shortest: %d, %d, not %d, %d%s", step, errno, want, wantErrno, text(l))
	}
}

// The chapter's example 3.
func TestExampleOfAKey(t *testing.T) {
	l := example(true, found(1))
	checkKeys(t, l, 7)
	checkLocal(t, l, false, api.OK)
	checkShortest(t, l, 5, api.OK)
}

// P7.7: Keys, of any list.
func TestKeys(t *testing.T) {
	checkKeys(t, nil)
	checkKeys(t, []api.Did{})
	l := []api.Did{
		did(0, 0, 1, get(9), none()),
		did(0, -5, 1, put(math.MaxUint64, 3), none()),
		did(0, 0, never, remove(0), none()),
		did(3, 8, 2, swap(4, 9, 9), none()),
		did(0, 0, 1, put(9, 1), failed(api.ErrOp)),
		did(0, 0, 1, api.Op{Kind: api.MultiGet, Key: 70, Keys: []uint64{71}}, paired(72, 1)),
		did(0, 0, 1, api.Op{Kind: api.Snapshot, Key: 73}, none()),
		did(0, 0, 1, api.Op{Kind: api.Release, Key: 74}, none()),
		did(0, 0, 1, api.Op{Kind: api.Range, Key: 75, Lo: 1, Hi: 76}, none()),
		did(0, 0, 1, api.Op{Kind: api.Count, Key: 77}, none()),
		did(0, 0, 1, api.Op{Kind: api.Collect, Key: 78}, none()),
		did(0, 0, 1, api.Op{Kind: 0, Key: 79}, none()),
		did(0, 0, 1, api.Op{Kind: 11, Key: 80}, none()),
		did(0, 0, 1, api.Op{Kind: 255, Key: 81}, none()),
	}
	kept := copyOf(l)
	checkKeys(t, l, 0, 4, 9, math.MaxUint64)
	checkKeys(t, l[5:])
	if !sameDids(l, kept) {
		t.Error("it was changed")
	}
}

// P7.7: Split: those of the key, in order, with Indexes of their own.
func TestSplit(t *testing.T) {
	l := []api.Did{
		did(1, 4, 5, get(8), none()),
		did(0, 0, 3, put(7, 1), none()),
		didAt(1, 1, 6, 8, get(7), found(1)),
		didAt(0, 1, 7, 9, api.Op{Kind: api.Count, Key: 7}, failed(api.ErrHandle)),
		didAt(1, 2, 10, 11, swap(8, 1, 1), none()),
		didAt(0, 2, 12, 15, remove(7), found(1)),
		didAt(1, 3, 13, never, swap(7, 1, 2), found(55)),
	}
	l[1].Op.Keys, l[2].Answer.Pairs = []uint64{1, 2}, []api.Pair{{Key: 3}}
	want := copyOf([]api.Did{l[1], l[2], l[5], l[6]})
	want[0].Span.Index, want[1].Span.Index, want[2].Span.Index, want[3].Span.Index = 0, 0, 1, 1
	kept := copyOf(l)
	part, errno := lin.Split(l, 7)
	if errno != api.OK || !sameDids(part, want) {
		t.Errorf("%d%s", errno, text(part))
	}
	if part, errno := lin.Split(l, 8); errno != api.OK || len(part) != 2 || part[0].Span.Index != 0 || part[1].Span.Index != 1 {
		t.Errorf("%d%s", errno, text(part))
	}
	for _, key := range []uint64{0, 1, math.MaxUint64} {
		if part, errno := lin.Split(l, key); errno != api.OK || len(part) != 0 {
			t.Errorf("key %d: %d%s", key, errno, text(part))
		}
	}
	part[0].Op.Keys[0], part[1].Answer.Pairs[0].Key, part[0].Span.From = 99, 99, 99
	_ = append(part[0].Op.Keys[:1], 98)
	if !sameDids(l, kept) {
		t.Error("what it answers lies in what it was handed")
	}
	if part, errno := lin.Split(nil, 7); errno != api.OK || len(part) != 0 {
		t.Error(part, errno)
	}
}

// P7.7, P7.8: ErrHistory goes ahead of all else.
func TestKeysOfHistoriesThatAreNotRight(t *testing.T) {
	for name, l := range notRight() {
		for range 3 {
			if part, errno := lin.Split(l, 1); errno != api.ErrHistory || len(part) != 0 {
				t.Errorf("Split, %s: %v, %d", name, part, errno)
			}
			checkLocal(t, l, false, api.ErrHistory)
			checkShortest(t, l, 0, api.ErrHistory)
			l = append(l, did(50, 500, 501, snapshot(), told(1)))
			l = append(l, slices.Repeat(l, 9)...)
		}
	}
}

// P7.7, P7.8: operations that are none of the four.
func TestKeysOfOtherOperations(t *testing.T) {
	others := []api.Op{snapshot(), release(1), multiGet(1, 7), inRange(1, 0, 9), count(1, 0, 9), collect(), {Kind: 0}, {Kind: 11}, {Kind: 255}}
	for _, op := range others {
		for _, to := range []int{never, 1001} {
			l := append(example(true, found(1)), did(5, 1000, to, op, none()))
			checkLocal(t, l, false, api.ErrOp)
			checkShortest(t, l, 0, api.ErrOp)
			many := together{}
			for range api.MaxFind + 1 {
				many.returned(get(7), none())
			}
			many.returned(op, none())
			checkLocal(t, many, false, api.ErrOp)
			checkShortest(t, many, 0, api.ErrOp)
		}
	}
}

// P7.7, P7.8: no operations.
func TestLocalOfNone(t *testing.T) {
	for _, l := range [][]api.Did{nil, {}} {
		checkLocal(t, l, true, api.OK)
		checkShortest(t, l, -1, api.OK)
	}
}

// P7.7, P7.8: just MaxFind operations, and one more; Local asks that of each key alone.
func TestLongHistoriesOfKeys(t *testing.T) {
	var l, two together
	for i := range api.MaxFind {
		l.returned(get(7), none())
		two.returned(get(7), none())
		two.returned(put(8, uint64(i)), failed(api.ErrMemory))
	}
	checkLocal(t, l, true, api.OK)
	checkShortest(t, l, -1, api.OK)
	checkLocal(t, two, true, api.OK)
	checkShortest(t, two, 0, api.ErrLong)
	l.returned(get(8), none())
	checkLocal(t, l, true, api.OK)
	checkShortest(t, l, 0, api.ErrLong)
	l.returned(get(8), found(3))
	checkLocal(t, l, false, api.OK)
	l.pending(get(7))
	checkLocal(t, l, false, api.ErrLong)
	two.returned(get(8), none())
	checkLocal(t, two, false, api.ErrLong)
	two.returned(get(6), found(1))
	checkLocal(t, two, false, api.ErrLong)
	checkShortest(t, two, 0, api.ErrLong)
}

// P7.7: a history of many keys.
func TestLocalOfManyKeys(t *testing.T) {
	var l []api.Did
	for i := range 10000 {
		a := none()
		if i >= 5000 {
			a = found(uint64(i - 5000))
		}
		l = append(l, didAt(0, i, i, i, put(uint64(i%5000), uint64(i)), a))
	}
	if is, errno := lin.Local(l); !is || errno != api.OK {
		t.Error(is, errno)
	}
	l[7777].Answer.Value++
	if is, errno := lin.Local(l); is || errno != api.OK {
		t.Error(is, errno)
	}
}

// P7.8: the step at which what nobody can have told was told.
func TestShortest(t *testing.T) {
	checkShortest(t, example(false, found(1)), -1, api.OK)
	checkShortest(t, example(false, none()), -1, api.OK)
	checkShortest(t, example(false, found(2)), 2, api.OK)
	checkShortest(t, pendingPut(found(1)), -1, api.OK)
	checkShortest(t, pendingPut(found(2)), 2, api.OK)
	// The Put's answer plays no part till it has returned, and its place is free till then.
	l := []api.Did{did(0, 0, 9, put(7, 1), found(5)), did(1, 1, 2, get(7), found(1)), didAt(1, 1, 3, 4, get(7), found(1))}
	checkShortest(t, l, 9, api.OK)
	l[2].Answer = none()
	checkShortest(t, l, 4, api.OK)
	l[0].Span.To = never
	checkShortest(t, l, 4, api.OK)
	// A Put that was told ErrMemory may have been on its way to any end, as long as it had not returned.
	l = []api.Did{did(0, 0, 9, put(7, 1), failed(api.ErrMemory)), did(1, 1, 2, get(7), found(1))}
	checkShortest(t, l, 9, api.OK)
	// What begins behind that step plays no part.
	l = append(l, didAt(1, 1, 20, 21, get(7), found(3)))
	checkShortest(t, l, 9, api.OK)
	l[0].Answer = none()
	checkShortest(t, l, 21, api.OK)
	checkShortest(t, []api.Did{did(0, math.MaxInt, math.MaxInt, get(1), found(1))}, math.MaxInt, api.OK)
	checkShortest(t, []api.Did{did(0, 0, 0, get(1), found(1))}, 0, api.OK)
}

// P7.7, P7.9: what is linearizable is so key by key, and the other way round.
func TestLocality(t *testing.T) {
	shown, not := 0, 0
	for seed := range int64(8000) {
		r := rand.New(rand.NewSource(seed))
		l := draw(r, drawWish(r, 10, fourKinds()))
		kept := copyOf(l)
		all := true
		for _, key := range lin.Keys(l) {
			part, errno := lin.Split(l, key)
			if errno != api.OK || hist.Right(spansOf(part)) != api.OK {
				t.Fatalf("Split of %d: %d%s", key, errno, text(part))
			}
			_, errno = lin.Find(part, drawMulti)
			all = all && errno == api.OK
		}
		_, errno := lin.Find(l, drawMulti)
		if all != (errno == api.OK) {
			t.Fatalf("key by key %t, as one %d%s", all, errno, text(l))
		}
		checkLocal(t, l, all, api.OK)
		if !sameDids(l, kept) {
			t.Fatal("it was changed")
		}
		if all {
			shown++
		} else {
			not++
		}
	}
	if shown < 1000 || not < 1000 {
		t.Error(shown, not)
	}
}

func spansOf(l []api.Did) []api.Span {
	var spans []api.Span
	for _, d := range l {
		spans = append(spans, d.Span)
	}
	return spans
}

// P7.8, P7.10: Shortest, step by step.
func TestShortestStepByStep(t *testing.T) {
	shown, not := 0, 0
	for seed := range int64(3000) {
		r := rand.New(rand.NewSource(seed))
		l := draw(r, drawWish(r, 7, fourKinds()))
		kept := copyOf(l)
		want := -1
		for step := 0; step <= lastStep(l)+1 && want < 0; step++ {
			if _, ok := plainFind(beginning(l, step), drawMulti); !ok {
				want = step
			}
		}
		checkShortest(t, l, want, api.OK)
		if !sameDids(l, kept) {
			t.Fatal("it was changed")
		}
		if want < 0 {
			shown++
			continue
		}
		not++
		if !slices.ContainsFunc(l, func(d api.Did) bool { return d.Span.To == want }) {
			t.Fatalf("no operation returned at %d%s", want, text(l))
		}
	}
	if shown < 500 || not < 500 {
		t.Error(shown, not)
	}
}
