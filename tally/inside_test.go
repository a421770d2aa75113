package tally

import (
	"runtime"
	"sync/atomic"
	"testing"

	"shutter/crew"
)

// till waits till a counter has come to a number.
func till(n *atomic.Int64, want int64) {
	for n.Load() < want {
		runtime.Gosched()
	}
}

// stays tells whether a counter stays as it is, though others could go on.
func stays(n *atomic.Int64, want int64) bool {
	for range 2000 {
		runtime.Gosched()
	}
	return n.Load() == want
}

// P23.10: who puts in waits where the ring is full, till something is taken out.
func TestRingWaitsWhereFull(t *testing.T) {
	for _, places := range []int{1, 2, 5} {
		r := newRing[int](places, 1)
		var put atomic.Int64
		putter := crew.Begin(1, func(int) {
			for i := range places + 3 {
				r.put(i)
				put.Add(1)
			}
		})
		for i := range places + 3 {
			full := int64(min(places+i, places+3))
			till(&put, full)
			if !stays(&put, full) {
				t.Error(places, "places:", put.Load(), "were put in, ", i, "taken out")
			}
			if got := r.take(); got != i {
				t.Error(got, "is not", i)
			}
		}
		putter.Wait()
	}
}

// P23.5, P23.10: who takes out waits where there is nothing, till something is put in.
func TestLinesWaitWhereEmpty(t *testing.T) {
	for name, l := range map[string]line[string]{"queue": newQueue[string](), "ring": newRing[string](2, 1)} {
		var took atomic.Int64
		taker := crew.Begin(1, func(int) {
			for range 3 {
				if got := l.take(); got != "x" {
					t.Error(name, got)
				}
				took.Add(1)
			}
		})
		for i := range int64(3) {
			if !stays(&took, i) {
				t.Error(name, took.Load())
			}
			l.put("x")
			till(&took, i+1)
		}
		taker.Wait()
	}
}

// P23.12: no more are in than may be, till somebody leaves.
func TestGateWaits(t *testing.T) {
	const permits, all = 2, 6
	g := newGate(permits, all)
	var in atomic.Int64
	visitors := crew.Begin(all, func(int) {
		g.enter()
		in.Add(1)
	})
	for n := int64(permits); n < all; n++ {
		till(&in, n)
		if !stays(&in, n) {
			t.Error(in.Load(), "are in, not", n)
		}
		g.leave()
	}
	visitors.Wait()
}

// P23.11: nobody goes on till all have come, and all go on then: meeting behind meeting.
func TestMeetingWaits(t *testing.T) {
	const all, times = 4, 5
	m := newMeeting(all)
	var gone atomic.Int64
	others := crew.Begin(all-1, func(int) {
		for range times {
			m.meet()
			gone.Add(1)
		}
	})
	for i := range int64(times) {
		if !stays(&gone, i*(all-1)) {
			t.Error(gone.Load(), "went on")
		}
		m.meet()
		till(&gone, (i+1)*(all-1))
	}
	others.Wait()
}

// P23.4: a stack that all push on and pop from at one time gives out what was pushed, each once.
func TestStackOfAll(t *testing.T) {
	const all, each = 8, 2000
	var s stack[int]
	got := make([]atomic.Int64, all*each)
	crew.Together(all, func(i int) {
		for k := range each {
			s.push(i*each + k)
			n, ok := s.pop() // there is always something: nobody pops ahead of its push
			if !ok {
				t.Error("nothing")
				return
			}
			got[n].Add(1)
		}
	})
	for n := range got {
		if got[n].Load() != 1 {
			t.Fatal(n, "came", got[n].Load(), "times")
		}
	}
}

// P23.7: of cells that many come to at one time each takes one thing, and everybody sees that one.
func TestCellsOfAll(t *testing.T) {
	const all, each = 8, 20000
	cells := make([]cell[int], each)
	saw := make([][]int, all)
	m := newMeeting(all)
	crew.Together(all, func(i int) {
		for k := range cells {
			if k%100 == 0 {
				m.meet() // so that nobody is far ahead
			}
			saw[i] = append(saw[i], cells[k].offer(i))
		}
	})
	for k := range cells {
		for i := range saw {
			if saw[i][k] != saw[0][k] {
				t.Fatal("of the cell", k, saw[0][k], "and", saw[i][k], "were seen")
			}
		}
	}
}

// P23.5, E8: who was stopped amid a put is in nobody's way: the next one goes on from what it left.
func TestQueueGoesOnWhereOneWasStopped(t *testing.T) {
	q := newQueue[int]()
	q.last.Load().next.Store(&link[int]{value: 1}) // and last was not moved
	q.put(2)
	q.put(3)
	for want := 1; want <= 3; want++ {
		if got := q.take(); got != want {
			t.Error(got, "is not", want)
		}
	}
}
