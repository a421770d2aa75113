package camera_test

import (
	"math"
	"math/rand"
	"reflect"
	"sync"
	"testing"

	"shutter/api"
	"shutter/arena"
	"shutter/camera"
	"shutter/step"
)

// cell is the camera's.
const cell = 5

func newMemory(t *testing.T, stamp uint64) *arena.Memory {
	t.Helper()
	m, errno := arena.New(128, false)
	if errno != api.OK {
		t.Fatal(errno)
	}
	m.View(9).Store(cell, stamp)
	return m
}

// made are the accesses behind the Store of newMemory.
func made(m *arena.Memory) []api.Access {
	return m.Trace()[1:]
}

func checkMade(t *testing.T, m *arena.Memory, want ...api.Access) {
	t.Helper()
	if got := made(m); len(got) != len(want) || len(want) > 0 && !reflect.DeepEqual(got, want) {
		t.Errorf("accesses %+v, not %+v", got, want)
	}
}

func checkTake(t *testing.T, p *camera.Take, stamp uint64, errno api.Errno, moved bool) {
	t.Helper()
	if p.Stamp() != stamp || p.Errno() != errno || p.Moved() != moved {
		t.Errorf("stamp %d, errno %d, moved %t, not %d, %d, %t", p.Stamp(), p.Errno(), p.Moved(), stamp, errno, moved)
	}
}

// The chapter's example 1.
func TestExampleOfStamps(t *testing.T) {
	m := newMemory(t, 1)
	v := m.View(0)
	p := camera.NewTake(cell, 100)
	if p.Step(v) || !p.Step(v) || m.Peek(cell) != 2 {
		t.Error("the cell holds", m.Peek(cell))
	}
	checkTake(t, p, 1, api.OK, true)
	m = newMemory(t, 1)
	v, w := m.View(0), m.View(1)
	a, b := camera.NewTake(cell, 100), camera.NewTake(cell, 100)
	if a.Step(v) || b.Step(w) || !a.Step(v) || !b.Step(w) || m.Peek(cell) != 2 {
		t.Error("the cell holds", m.Peek(cell))
	}
	checkTake(t, a, 1, api.OK, true)
	checkTake(t, b, 1, api.OK, false)
}

// The chapter's example 2.
func TestExampleOfTheLastStamp(t *testing.T) {
	m := newMemory(t, 100)
	p := camera.NewTake(cell, 100)
	if !p.Step(m.View(0)) {
		t.Error("not done")
	}
	checkTake(t, p, 0, api.ErrStamp, false)
	checkMade(t, m, api.Access{Kind: api.Load, Addr: cell, Got: 100})
}

// P8.1: a Now is one Load; ahead of it nothing is told, and behind it nothing is done.
func TestNow(t *testing.T) {
	for _, stamp := range []uint64{0, 1, 77, math.MaxUint64} {
		m := newMemory(t, stamp)
		p := camera.NewNow(cell)
		checkMade(t, m)
		if p.Stamp() != 0 {
			t.Error("ahead of its step:", p.Stamp())
		}
		for range 3 {
			if !p.Step(m.View(3)) || p.Stamp() != stamp {
				t.Errorf("%d, not %d", p.Stamp(), stamp)
			}
			m.View(9).Add(0, 1)
		}
		if l := made(m); len(l) != 4 || !reflect.DeepEqual(l[0], api.Access{Thread: 3, Kind: api.Load, Addr: cell, Got: stamp}) {
			t.Errorf("%+v", l)
		}
	}
}

// P8.1: what it read stays what it is.
func TestNowStays(t *testing.T) {
	m := newMemory(t, 4)
	p := camera.NewNow(cell)
	p.Step(m.View(0))
	m.View(1).Store(cell, 9)
	if !p.Step(m.View(0)) || p.Stamp() != 4 {
		t.Error(p.Stamp())
	}
}

// P8.1: a Take is a Load and a Cas, one a step; Stamp, Errno and Moved are zero ahead of its end.
func TestTakeStepByStep(t *testing.T) {
	m := newMemory(t, 7)
	v := m.View(2)
	p := camera.NewTake(cell, 100)
	checkTake(t, p, 0, api.OK, false)
	checkMade(t, m)
	if p.Step(v) {
		t.Error("done by the Load")
	}
	checkTake(t, p, 0, api.OK, false)
	load := api.Access{Thread: 2, Kind: api.Load, Addr: cell, Got: 7}
	checkMade(t, m, load)
	cas := api.Access{Thread: 2, Kind: api.Cas, Addr: cell, A: 7, B: 8, Ok: true}
	for range 3 {
		if !p.Step(v) {
			t.Error("not done by the Cas")
		}
		checkTake(t, p, 7, api.OK, true)
		checkMade(t, m, load, cas)
	}
	if m.Peek(cell) != 8 {
		t.Error("the cell holds", m.Peek(cell))
	}
}

// P8.1: if the cell was turned on in the meantime, the stamp is the one that was read.
func TestTakeThatComesTooLate(t *testing.T) {
	m := newMemory(t, 7)
	v := m.View(2)
	p := camera.NewTake(cell, 100)
	p.Step(v)
	m.View(9).Store(cell, 9)
	for range 2 {
		if !p.Step(v) {
			t.Error("not done")
		}
		checkTake(t, p, 7, api.OK, false)
	}
	if m.Peek(cell) != 9 || m.Made() != 4 {
		t.Error(m.Peek(cell), m.Made())
	}
	// It asks for most when it has read the cell, and not again.
	q := camera.NewTake(cell, 10)
	q.Step(v)
	m.View(9).Store(cell, 10)
	q.Step(v)
	checkTake(t, q, 9, api.OK, false)
}

// P8.1, P8.6: most: at it, one below it, above it, and at the ends of all numbers.
func TestMost(t *testing.T) {
	const greatest = math.MaxUint64
	for _, c := range []struct {
		stamp, most uint64
		errno       api.Errno
	}{
		{99, 100, api.OK},
		{100, 100, api.ErrStamp},
		{101, 100, api.ErrStamp},
		{greatest, 100, api.ErrStamp},
		{0, 0, api.ErrStamp},
		{1, 0, api.ErrStamp},
		{greatest, 0, api.ErrStamp},
		{0, 1, api.OK},
		{1, 1, api.ErrStamp},
		{0, greatest, api.OK},
		{greatest - 2, greatest, api.OK},
		{greatest - 1, greatest, api.OK},
		{greatest - 1, greatest - 1, api.ErrStamp},
		{greatest, greatest - 1, api.ErrStamp},
		{greatest, greatest, api.ErrStamp},
		{1 << 63, 1<<63 - 1, api.ErrStamp},
		{1<<63 - 1, 1 << 63, api.OK},
		{api.MaxStamp, api.MaxStamp, api.ErrStamp},
	} {
		m := newMemory(t, c.stamp)
		v := m.View(0)
		p := camera.NewTake(cell, c.most)
		if c.errno == api.OK {
			if p.Step(v) || !p.Step(v) || m.Peek(cell) != c.stamp+1 {
				t.Errorf("%d of %d: the cell holds %d", c.stamp, c.most, m.Peek(cell))
			}
			checkTake(t, p, c.stamp, api.OK, true)
			continue
		}
		for range 3 {
			if !p.Step(v) || m.Peek(cell) != c.stamp || len(made(m)) != 1 {
				t.Errorf("%d of %d: the cell holds %d", c.stamp, c.most, m.Peek(cell))
			}
			checkTake(t, p, 0, c.errno, false)
		}
	}
}

// P1 of the document's rules: nil procs.
func TestNilProcs(t *testing.T) {
	var now *camera.Now
	var take *camera.Take
	m := newMemory(t, 1)
	for range 2 {
		if !now.Step(m.View(0)) || !now.Step(nil) || now.Stamp() != 0 {
			t.Error("Now")
		}
		if !take.Step(m.View(0)) || !take.Step(nil) {
			t.Error("Take")
		}
		checkTake(t, take, 0, api.ErrNil, false)
	}
	checkMade(t, m)
}

// P1 of the document's rules: a nil view: no access, a Load answers 0, a Cas false; but the proc goes on.
func TestNilViews(t *testing.T) {
	now := camera.NewNow(cell)
	if !now.Step(nil) || now.Stamp() != 0 {
		t.Error("Now")
	}
	p := camera.NewTake(cell, 1)
	if p.Step(nil) || !p.Step(nil) || !p.Step(nil) {
		t.Error("Take")
	}
	checkTake(t, p, 0, api.OK, false)
	p = camera.NewTake(cell, 0)
	if !p.Step(nil) {
		t.Error("Take with most 0")
	}
	checkTake(t, p, 0, api.ErrStamp, false)
	m := newMemory(t, 7)
	p = camera.NewTake(cell, 100)
	if p.Step(m.View(0)) || !p.Step(nil) || m.Peek(cell) != 7 {
		t.Error("the cell holds", m.Peek(cell))
	}
	checkTake(t, p, 7, api.OK, false)
	if now.Step(m.View(0)); now.Stamp() != 0 || len(made(m)) != 1 {
		t.Error("a Now that was done has read")
	}
}

// P1 of the document's rules: addresses that are no cell's, and the cell 0.
func TestOtherCells(t *testing.T) {
	m := newMemory(t, 7)
	v := m.View(0)
	for _, addr := range []uint64{128, 1 << 40, math.MaxUint64} {
		now, p := camera.NewNow(addr), camera.NewTake(addr, 3)
		if !now.Step(v) || now.Stamp() != 0 || p.Step(v) || !p.Step(v) {
			t.Error("the cell", addr)
		}
		checkTake(t, p, 0, api.OK, false)
	}
	p := camera.NewTake(0, 3)
	if p.Step(v) || !p.Step(v) || m.Peek(0) != 1 {
		t.Error("the cell 0 holds", m.Peek(0))
	}
	checkTake(t, p, 0, api.OK, true)
}

// watched is a proc whose steps are looked at: what the cell held ahead of them, and in which of all steps they were taken.
type watched struct {
	thread      int
	clock       *int
	memory      *arena.Memory
	take        *camera.Take // or
	now         *camera.Now
	first, last int // its first and last step, -1 ahead of them
	held        []uint64
}

func (p *watched) Step(v *arena.View) bool {
	if p.first < 0 {
		p.first = *p.clock
	}
	p.held = append(p.held, p.memory.Peek(cell))
	done := false
	if p.take != nil {
		done = p.take.Step(v)
	} else {
		done = p.now.Step(v)
	}
	if done {
		p.last = *p.clock
	}
	*p.clock++
	return done
}

// run is threads of Takes and Nows, and what is looked at of them.
type run struct {
	clock  int
	start  uint64
	most   uint64 // the greatest one
	memory *arena.Memory
	procs  []*watched
	runner *step.Runner
	cell   uint64 // what the cell held behind the last pick
}

// newRun has threads of calls: a Take with the most for each number, a Now for each -1.
func newRun(t *testing.T, start uint64, threads [][]int) *run {
	t.Helper()
	r := &run{start: start, memory: newMemory(t, start), cell: start}
	var calls [][]step.Proc
	for thread, mosts := range threads {
		var procs []step.Proc
		for _, most := range mosts {
			p := &watched{thread: thread, clock: &r.clock, memory: r.memory, first: -1, last: -1}
			if most < 0 {
				p.now = camera.NewNow(cell)
			} else {
				p.take = camera.NewTake(cell, uint64(most))
				r.most = max(r.most, uint64(most))
			}
			r.procs = append(r.procs, p)
			procs = append(procs, p)
		}
		calls = append(calls, procs)
	}
	runner, errno := step.New(r.memory, calls)
	if errno != api.OK {
		t.Fatal(errno)
	}
	r.runner = runner
	return r
}

// isLeft tells whether a thread has a call that has not returned.
func (r *run) isLeft(thread int) bool {
	for _, p := range r.procs {
		if p.thread == thread && p.last < 0 {
			return true
		}
	}
	return false
}

// pick checks P8.2, P8.3 and P8.6 of what one pick did.
func (r *run) pick(t *testing.T, thread int) {
	t.Helper()
	before := r.cell
	r.runner.Pick(thread)
	r.cell = r.memory.Peek(cell)
	if r.cell != before && r.cell != before+1 {
		t.Fatalf("from %d to %d", before, r.cell)
	}
	if r.cell > max(r.most, r.start) {
		t.Fatalf("%d is above %d", r.cell, r.most)
	}
	moved := uint64(0)
	for _, p := range r.procs {
		if p.take != nil && p.take.Moved() {
			moved++
		}
		if p.take != nil && p.last == r.clock-1 && p.last >= 0 && p.take.Errno() == api.OK && r.cell <= p.take.Stamp() {
			t.Fatalf("the cell holds %d when %d is told", r.cell, p.take.Stamp())
		}
	}
	if r.cell != r.start+moved {
		t.Fatalf("the cell holds %d, and %d have moved", r.cell, moved)
	}
}

// check checks P8.3, P8.4 and P8.5 of a run that is at its end.
func (r *run) check(t *testing.T) {
	t.Helper()
	movers := map[uint64]int{}
	for _, p := range r.procs {
		if p.now != nil {
			if p.now.Stamp() != p.held[0] {
				t.Fatalf("a Now told %d, of %d", p.now.Stamp(), p.held)
			}
			continue
		}
		if p.take.Errno() != api.OK {
			if p.take.Errno() != api.ErrStamp || p.take.Stamp() != 0 || p.take.Moved() || len(p.held) != 1 {
				t.Fatal(p.take.Errno(), p.take.Stamp())
			}
			continue
		}
		if p.take.Stamp() != p.held[0] || len(p.held) != 2 {
			t.Fatalf("a Take told %d, of %d", p.take.Stamp(), p.held)
		}
		if p.take.Moved() {
			movers[p.take.Stamp()]++
		}
		for _, q := range r.procs {
			if q.take != nil && q.take.Errno() == api.OK && q.last < p.first && q.take.Stamp() >= p.take.Stamp() {
				t.Fatalf("%d behind %d", p.take.Stamp(), q.take.Stamp())
			}
		}
	}
	for stamp := r.start; stamp < r.cell; stamp++ {
		if movers[stamp] != 1 {
			t.Fatalf("%d have moved %d", movers[stamp], stamp)
		}
	}
	if uint64(len(movers)) != r.cell-r.start {
		t.Fatalf("moved: %v", movers)
	}
}

// allPicks does a run by all picks there are, and tells how many runs these were.
func allPicks(t *testing.T, start uint64, threads [][]int) int {
	t.Helper()
	runs := 0
	var walk func(picks []int)
	walk = func(picks []int) {
		r := newRun(t, start, threads)
		for _, thread := range picks {
			r.pick(t, thread)
		}
		if r.runner.Done() {
			r.check(t)
			runs++
		}
		for thread := range threads {
			if r.isLeft(thread) {
				walk(append(picks[:len(picks):len(picks)], thread))
			}
		}
	}
	walk(nil)
	return runs
}

// P8.2 to P8.6: all orders of steps.
func TestAllPicks(t *testing.T) {
	runs := 0
	for _, threads := range [][][]int{
		{{100}, {100}, {100}},
		{{100, 100}, {100, 100}},
		{{100, -1}, {-1, 100}, {-1}},
		{{100, 100}, {100}, {100}},
		{{2, 100}, {3, 1}},
		{{2}, {2}, {2}, {-1}},
		{{3, 3, 3}, {3, 3}},
		{{0, 9}, {1, 2}},
	} {
		for _, start := range []uint64{1, 2, 5} {
			runs += allPicks(t, start, threads)
		}
	}
	if runs < 2000 {
		t.Error("too few runs:", runs)
	}
}

// P8.2 to P8.6: long runs of many threads.
func TestDrawnPicks(t *testing.T) {
	for seed := range int64(300) {
		r := rand.New(rand.NewSource(seed))
		threads := make([][]int, 1+r.Intn(6))
		for i := range threads {
			for range r.Intn(12) {
				threads[i] = append(threads[i], []int{-1, 1, 5, 10, 1000, 1000}[r.Intn(6)])
			}
		}
		run := newRun(t, uint64(1+r.Intn(8)), threads)
		for !run.runner.Done() {
			run.pick(t, r.Intn(len(threads)))
		}
		run.check(t)
	}
}

// P8.2, P8.4, P8.5: by goroutines over a live memory.
func TestLive(t *testing.T) {
	const threads, calls = 8, 500
	m, errno := arena.New(128, true)
	if errno != api.OK {
		t.Fatal(errno)
	}
	m.View(-1).Store(cell, 1)
	var procs [threads][calls]*camera.Take
	var wait sync.WaitGroup
	for i := range threads {
		wait.Go(func() {
			v := m.View(i)
			for j := range calls {
				procs[i][j] = camera.NewTake(cell, math.MaxUint64)
				step.Alone(v, procs[i][j], 2)
			}
		})
	}
	wait.Wait()
	movers := map[uint64]int{}
	for i := range threads {
		for j, p := range procs[i] {
			if p.Moved() {
				movers[p.Stamp()]++
			}
			if p.Errno() != api.OK || p.Stamp() == 0 || j > 0 && p.Stamp() <= procs[i][j-1].Stamp() {
				t.Fatal(i, j, p.Errno(), p.Stamp())
			}
		}
	}
	if m.Peek(cell) != 1+uint64(len(movers)) {
		t.Error(m.Peek(cell), len(movers))
	}
	for stamp := uint64(1); stamp < m.Peek(cell); stamp++ {
		if movers[stamp] != 1 {
			t.Errorf("%d have moved %d", movers[stamp], stamp)
		}
	}
}
