package live_test

import (
	"math"
	"slices"
	"testing"

	"shutter/api"
	"shutter/live"
)

// P22.7: one thread, stopped after each number of steps: a Put of eight, a Get of five.
func TestCrashOfOne(t *testing.T) {
	threads := [][]api.Op{ops(t, "put 7 1", "get 7")}
	there := []api.Pair{{Key: 7, Value: 1}}
	for stop := range 16 {
		var want []api.Span
		var content []api.Pair
		if stop > 0 {
			want = append(want, api.Span{From: 0, To: -1})
		}
		if stop >= 5 { // its fifth access puts it in
			content = there
		}
		if stop >= 8 {
			want[0].To = 1
		}
		if stop > 8 {
			want = append(want, api.Span{Index: 1, From: 2, To: -1})
		}
		if stop >= 13 {
			want[1].To = 3
		}
		l, held, errno := live.Crash(config(), threads, []int{stop})
		if errno != api.OK || !slices.Equal(spansOf(l), want) || !slices.Equal(held, content) {
			t.Errorf("%d: %+v %v %d", stop, l, held, errno)
		}
		checkDids(t, threads, l)
	}
}

// P22.7: who is not stopped: no number, one below 0, one that is not come to; numbers without a thread.
func TestCrashOfNone(t *testing.T) {
	threads := [][]api.Op{ops(t, "put 7 1", "get 7"), ops(t, "put 8 1", "get 8")}
	for _, stops := range [][]int{nil, {}, {-1}, {math.MinInt, -1}, {math.MaxInt, 1000}, {-1, -1, 0, 5}} {
		l, content, errno := live.Crash(config(), threads, stops)
		if errno != api.OK || len(content) != 2 {
			t.Fatal(stops, errno, content)
		}
		checkAll(t, threads, l)
		checkDids(t, threads, l)
	}
}

// P22.7: a step without an access is one, too.
func TestCrashCountsSteps(t *testing.T) {
	threads := [][]api.Op{append(ops(t, "count 0 0 9", "release 0"), api.Op{}, api.Op{Kind: api.Get})}
	for stop := range 6 {
		l, _, errno := live.Crash(config(), threads, []int{stop})
		if errno != api.OK || len(l) != min(stop, 4) {
			t.Error(stop, errno, l)
		}
	}
}

// P22.7: a Ref to a call that does not return is the handle 0.
func TestCrashOfRef(t *testing.T) {
	threads := [][]api.Op{ops(t, "snapshot", "get 7"), ops(t, "get 1", "get 1", "count @0.0 0 9", "release @0.0", "count @0.1 0 9")}
	for stop := range 7 {
		for range 20 {
			l, _, errno := live.Crash(config(), threads, []int{stop})
			if errno != api.OK || len(l) != 5+min(stop, 1) {
				t.Fatal(stop, errno, l)
			}
			checkDids(t, threads, l)
			for _, d := range l {
				if d.Span.Thread == 1 && d.Op.Kind != api.Get && (d.Op.Handle != 0 || d.Answer.Errno != api.ErrHandle) {
					t.Fatalf("%d: %+v", stop, d)
				}
			}
		}
	}
}

// P22.10 (E5, E8): whoever stops, all others return; some order shows what was told, and leaves what is there.
func TestCrashOfSome(t *testing.T) {
	pendings := 0
	for seed := range uint64(1000) {
		c, threads := someThreads(t, seed)
		stops := make([]int, len(threads)/2+int(seed%2))
		for i := range stops {
			stops[i] = int((seed*31+uint64(i)*17)%45) - 1
		}
		l, content, errno := live.Crash(c, threads, stops)
		if errno != api.OK {
			t.Fatal(errno)
		}
		checkDids(t, threads, l)
		checkShown(t, c, l, content)
		pendings += checkStopped(t, threads, stops, l)
	}
	if pendings < 100 {
		t.Error("calls that were stopped:", pendings)
	}
}

// checkStopped checks that none is pending, or has not begun, but of a thread that was stopped: how many are pending.
func checkStopped(t *testing.T, threads [][]api.Op, stops []int, l []api.Did) int {
	t.Helper()
	begun, pending := make([]int, len(threads)), make([]int, len(threads))
	for _, d := range l {
		begun[d.Span.Thread]++
		if d.Span.To < 0 {
			pending[d.Span.Thread]++
		}
	}
	all := 0
	for i, ops := range threads {
		stopped := i < len(stops) && stops[i] >= 0
		if !stopped && (begun[i] < len(ops) || pending[i] > 0) || pending[i] > 1 {
			t.Fatalf("the thread %d\n%+v", i, l)
		}
		all += pending[i]
	}
	return all
}

// P22.10: many are stopped amid changes of one key; those that go on come to their ends, and changes lead on.
func TestCrashOfMany(t *testing.T) {
	const threads, calls = 16, 100
	c := api.Config{Cells: 1 << 17, Slots: 4, Stamps: 1000, Multi: 4}
	work, stops := make([][]api.Op, threads), make([]int, threads)
	for i := range work {
		for j := range calls {
			work[i] = append(work[i], api.Op{Kind: api.Put, Key: uint64(j % 2), Value: uint64(1 + i*calls + j)})
		}
	}
	for round := range 30 {
		for i := range stops {
			stops[i] = round*7 + i*11
			if i%4 == 0 {
				stops[i] = -1
			}
		}
		l, content, errno := live.Crash(c, work, stops)
		if errno != api.OK {
			t.Fatal(errno)
		}
		checkDids(t, work, l)
		checkStopped(t, work, stops, l)
		checkFoundOnce(t, l, content)
	}
}

// checkFoundOnce checks Puts of values that are put once: each is found at most once, or is there in the end; one that has returned is one of both.
func checkFoundOnce(t *testing.T, l []api.Did, content []api.Pair) {
	t.Helper()
	found := map[uint64]int{}
	for _, d := range l {
		if d.Span.To >= 0 && d.Answer.Found {
			found[d.Answer.Value]++
		}
	}
	for _, p := range content {
		found[p.Value]++
	}
	pending := map[uint64]bool{}
	for _, d := range l {
		if d.Span.To < 0 {
			pending[d.Op.Key] = true
		}
	}
	for _, d := range l {
		n := found[d.Op.Value]
		// What a call that was stopped has found, nobody was told.
		if n > 1 || n == 0 && d.Span.To >= 0 && !pending[d.Op.Key] {
			t.Fatalf("%+v: %d", d, n)
		}
	}
}
