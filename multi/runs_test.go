package multi_test

import (
	"fmt"
	"math/rand"
	"slices"
	"strconv"
	"sync"
	"testing"

	"shutter/api"
	"shutter/arena"
	"shutter/hist"
	"shutter/multi"
	"shutter/step"
)

// call is a Multi of entries, or a Read of a cell, if there are none.
type call struct {
	entries []multi.Entry
	addr    uint64
}

func swap(l ...multi.Entry) call { return call{entries: l} }
func read(addr uint64) call      { return call{addr: addr} }

func (c call) proc() step.Proc {
	if c.addr != 0 {
		return multi.NewRead(c.addr)
	}
	return multi.NewMulti(c.entries)
}

// did is a call with what it told, and when.
type did struct {
	call
	span api.Span
	told told
}

// meets tells whether all that is awaited is there.
func (c call) meets(values []uint64) bool {
	return !slices.ContainsFunc(c.entries, func(e multi.Entry) bool { return values[e.Addr-1] != e.Old })
}

// behind is what is there when a Multi was done.
func (c call) behind(values []uint64) []uint64 {
	l := slices.Clone(values)
	for _, e := range c.entries {
		l[e.Addr-1] = e.New
	}
	return l
}

// then is what cells hold behind a call, done at one time; false: it would not have told what it told.
func (d did) then(values []uint64) ([]uint64, bool) {
	switch {
	case d.span.To < 0:
		return d.behind(values), d.addr == 0 && d.meets(values)
	case d.addr != 0:
		return values, values[d.addr-1] == d.told.value
	case d.told.done:
		return d.behind(values), d.meets(values)
	case d.told.errno == api.ErrMemory:
		return values, true
	}
	return values, !d.meets(values)
}

// search looks for an order that shows a history, and leads to what cells hold in the end.
type search struct {
	dids []did
	last []uint64
	seen map[string]int
}

func (s *search) from(used uint64, values []uint64) bool {
	key := fmt.Sprint(used, values)
	if s.seen[key] > 0 {
		return false
	}
	s.seen[key]++
	left := false
	for i, d := range s.dids {
		if used>>i&1 == 1 {
			continue
		}
		left = left || d.span.To >= 0
		if s.mustWait(used, d) {
			continue
		}
		if then, ok := d.then(values); ok && s.from(used|1<<i, then) {
			return true
		}
	}
	return !left && slices.Equal(values, s.last)
}

// mustWait tells whether another call that is not in the order yet goes ahead of one.
func (s *search) mustWait(used uint64, d did) bool {
	for i, other := range s.dids {
		if used>>i&1 == 0 && other.span.To >= 0 && other.span.To < d.span.From {
			return true
		}
	}
	return false
}

// run is threads of calls on cells from 1 on.
type run struct {
	t       *testing.T
	memory  *arena.Memory
	first   []uint64
	threads [][]call
	procs   [][]step.Proc
	runner  *step.Runner
}

func newRun(t *testing.T, left int, first []uint64, threads [][]call) *run {
	t.Helper()
	r := &run{t: t, memory: newMemory(t, left, first...), first: first, threads: threads}
	for _, calls := range threads {
		var l []step.Proc
		for _, c := range calls {
			l = append(l, c.proc())
		}
		r.procs = append(r.procs, l)
	}
	var errno api.Errno
	if r.runner, errno = step.New(r.memory, r.procs); errno != api.OK {
		t.Fatal(errno)
	}
	return r
}

func (r *run) dids() []did {
	spans, errno := hist.Spans(r.runner.Events())
	if errno != api.OK {
		r.t.Fatal(errno)
	}
	var l []did
	for _, s := range spans {
		l = append(l, did{r.threads[s.Thread][s.Index], s, toldOf(r.procs[s.Thread][s.Index])})
	}
	return l
}

// values are what the cells hold: what Reads tell, done alone on a memory beside this one.
func (r *run) values() []uint64 {
	m := r.memory.Fork()
	var l []uint64
	for i := range r.first {
		p := multi.NewRead(uint64(i + 1))
		if !step.Alone(m.View(9), p, 5000) {
			r.t.Fatal("a Read is not done")
		}
		l = append(l, p.Value())
	}
	return l
}

// check checks P29.3, and P29.4 of a run in which nothing is pending.
func (r *run) check() {
	last := r.values()
	if l, ok := multi.Values(r.memory, 1, len(r.first)); len(r.runner.Pending()) == 0 && (!ok || !slices.Equal(l, last)) {
		r.t.Fatalf("the cells hold no values, or other ones: %d, %t, not %d", l, ok, last)
	}
	s := search{dids: r.dids(), last: last, seen: map[string]int{}}
	if !s.from(0, r.first) {
		r.t.Fatalf("no order shows it, from %d to %d: %+v", r.first, last, s.dids)
	}
}

// left are the threads that have calls that have not returned.
func (r *run) left() []int {
	counts := make([]int, len(r.threads))
	for _, event := range r.runner.Events() {
		if event.Return {
			counts[event.Thread]++
		}
	}
	var l []int
	for thread, calls := range r.threads {
		if counts[thread] < len(calls) {
			l = append(l, thread)
		}
	}
	return l
}

// allPicks does a run by all picks there are that go at most so many times from one thread, that could have gone on, to another; it tells how many runs these were.
func allPicks(t *testing.T, most, left int, first []uint64, threads [][]call) int {
	t.Helper()
	runs := 0
	var walk func(picks []int, switches int)
	walk = func(picks []int, switches int) {
		r := newRun(t, left, first, threads)
		r.runner.Run(picks)
		for l := r.left(); len(l) > 0; l = r.left() {
			next, more := l[0], switches
			if len(picks) > 0 && slices.Contains(l, picks[len(picks)-1]) {
				next = picks[len(picks)-1]
				more++
			}
			for _, thread := range l {
				if thread != next && more <= most {
					walk(append(slices.Clone(picks), thread), more)
				}
			}
			picks = append(picks[:len(picks):len(picks)], next)
			r.runner.Pick(next)
			if len(picks) > 1000 {
				t.Fatal("nobody gets on")
			}
		}
		r.check()
		runs++
	}
	walk(nil, 0)
	return runs
}

// P29.3, P29.4, P29.6: all orders of steps of two threads or three, with few changes from one to another.
func TestAllPicks(t *testing.T) {
	both := swap(entry(1, 0, 1), entry(2, 0, 1))
	for i, c := range []struct {
		most, left int
		threads    [][]call
	}{
		{3, 400, [][]call{{both}, {both}}},
		{3, 400, [][]call{{both}, {swap(entry(1, 1, 0))}}},
		{3, 400, [][]call{{both}, {swap(entry(2, 0, 5), entry(3, 0, 5))}}},
		{3, 400, [][]call{{swap(entry(1, 0, 1))}, {swap(entry(1, 0, 2)), read(1)}}},
		{3, 400, [][]call{{both}, {read(1), read(2)}}},
		{3, 400, [][]call{{both}, {read(2), read(1)}}},
		{3, 400, [][]call{{swap(entry(1, 0, 0), entry(2, 1, 3))}, {read(1), swap(entry(1, 0, 4))}}},
		{2, 400, [][]call{{both}, {swap(entry(1, 0, 2))}, {read(1)}}},
		{2, 400, [][]call{{swap(entry(1, 0, 1))}, {swap(entry(1, 1, 0))}, {swap(entry(1, 0, 1))}}},
		{3, 30, [][]call{{both}, {swap(entry(2, 0, 2))}}},
		{3, 20, [][]call{{both}, {read(1), read(2)}}},
		{3, 12, [][]call{{swap(entry(1, 0, 1))}, {read(1)}}},
	} {
		t.Run(strconv.Itoa(i), func(t *testing.T) {
			t.Parallel()
			if runs := allPicks(t, c.most, c.left, []uint64{0, 0, 0}, c.threads); runs < 80 {
				t.Error("too few runs:", runs)
			}
		})
	}
}

func drawCall(r *rand.Rand, cells int) call {
	if r.Intn(4) == 0 {
		return read(uint64(1 + r.Intn(cells)))
	}
	var l []multi.Entry
	for _, i := range r.Perm(cells)[:1+r.Intn(min(cells, 3))] {
		l = append(l, entry(uint64(i+1), uint64(r.Intn(2)), uint64(r.Intn(2))))
	}
	return swap(l...)
}

func drawRun(t *testing.T, r *rand.Rand, left int) *run {
	t.Helper()
	first := make([]uint64, 1+r.Intn(4))
	threads := make([][]call, 2+r.Intn(5))
	for i := range threads {
		for range 1 + r.Intn(3) {
			threads[i] = append(threads[i], drawCall(r, len(first)))
		}
	}
	return newRun(t, left, first, threads)
}

// P29.3, P29.4, P29.6: many threads, in memories with room and without; whatever the picks are, all return.
func TestDrawnPicks(t *testing.T) {
	kinds := map[string]int{}
	for seed := range int64(3000) {
		r := rand.New(rand.NewSource(seed))
		left := 5000
		if seed%4 == 0 {
			left = r.Intn(150)
		}
		run := drawRun(t, r, left)
		for picks := 0; !run.runner.Done(); picks++ {
			thread := r.Intn(len(run.threads))
			for range 1 + r.Intn(3)*r.Intn(5) {
				run.runner.Pick(thread)
			}
			if picks > 20000 {
				t.Fatal("nobody gets on")
			}
		}
		run.check()
		for _, p := range slices.Concat(run.procs...) {
			kinds[kindOf(p)]++
		}
	}
	for _, kind := range []string{"done", "not done", "no memory", "read"} {
		if kinds[kind] < 200 {
			t.Error("too little has come up:", kind, kinds)
		}
	}
}

// P29.3: threads that stand still for good, wherever they are, hinder nobody: the others return, and an order shows it.
func TestStandStill(t *testing.T) {
	pending := 0
	for seed := range int64(1500) {
		r := rand.New(rand.NewSource(seed))
		run := drawRun(t, r, 5000)
		for range r.Intn(150) {
			run.runner.Pick(r.Intn(len(run.threads)))
		}
		run.check()
		going := r.Intn(len(run.threads))
		for picks := 0; slices.Contains(run.left(), going); picks++ {
			run.runner.Pick(going)
			if picks > 5000 {
				t.Fatal("it does not get on")
			}
		}
		run.check()
		pending += len(run.runner.Pending())
	}
	if pending < 1000 {
		t.Error("too few stand still:", pending)
	}
}

// P29.5: alone, a Multi is done just if all that it awaits is there; else nothing changes.
func TestAlone(t *testing.T) {
	for seed := range int64(300) {
		r := rand.New(rand.NewSource(seed))
		values := []uint64{uint64(r.Intn(2)), uint64(r.Intn(2)), uint64(r.Intn(2)), greatest}
		m := newMemory(t, 3000, values...)
		for range 20 {
			c := swap(drawEntries(r, len(values))...)
			p := multi.NewMulti(c.entries)
			alone(t, m, p)
			if p.Done() != c.meets(values) || p.Errno() != api.OK {
				t.Fatalf("%v of %d: %t, %d", c.entries, values, p.Done(), p.Errno())
			}
			if p.Done() {
				values = c.behind(values)
			}
			checkValues(t, m, 1, values...)
		}
	}
}

// tooMany is more steps, or tries, than anything takes.
const tooMany = 100000

// move lets a cell have 1 less and another one 1 more, if the one has any; false: it has none.
func move(v *arena.View, from, to uint64) bool {
	for range tooMany {
		a, b := multi.NewRead(from), multi.NewRead(to)
		step.Alone(v, a, tooMany)
		step.Alone(v, b, tooMany)
		if a.Value() == 0 {
			return false
		}
		p := multi.NewMulti([]multi.Entry{entry(from, a.Value(), a.Value()-1), entry(to, b.Value(), b.Value()+1)})
		step.Alone(v, p, tooMany)
		if p.Done() || p.Errno() != api.OK {
			return p.Done()
		}
	}
	return false
}

// look is what all cells hold at one time.
func look(v *arena.View, cells int) []uint64 {
	for range tooMany {
		var l []uint64
		var same []multi.Entry
		for addr := uint64(1); addr <= uint64(cells); addr++ {
			p := multi.NewRead(addr)
			step.Alone(v, p, tooMany)
			l = append(l, p.Value())
			same = append(same, entry(addr, p.Value(), p.Value()))
		}
		p := multi.NewMulti(same)
		step.Alone(v, p, tooMany)
		if p.Done() || p.Errno() != api.OK {
			return l
		}
	}
	return nil
}

func sum(l []uint64) uint64 {
	n := uint64(0)
	for _, value := range l {
		n += value
	}
	return n
}

// P29.3, P29.4: by goroutines over a live memory: what is moved is neither lost nor twice there, at any time.
func TestLive(t *testing.T) {
	const threads, cells, rounds, each = 8, 4, 300, 100
	m, errno := arena.New(1<<21, true)
	if errno != api.OK {
		t.Fatal(errno)
	}
	multi.Make(m.View(0), []uint64{each, each, each, each})
	var moved [threads][cells][cells]uint64
	var sums [threads][]uint64
	var wait sync.WaitGroup
	for i := range threads {
		wait.Go(func() {
			v := m.View(i)
			r := rand.New(rand.NewSource(int64(i)))
			for range rounds {
				from := r.Intn(cells)
				to := (from + 1 + r.Intn(cells-1)) % cells
				if move(v, uint64(from+1), uint64(to+1)) {
					moved[i][from][to]++
				}
			}
			sums[i] = append(sums[i], sum(look(v, cells)))
		})
	}
	wait.Wait()
	want := []uint64{each, each, each, each}
	for i := range threads {
		for from := range cells {
			for to, n := range moved[i][from] {
				want[from] -= n
				want[to] += n
			}
		}
		for _, n := range sums[i] {
			if n != cells*each {
				t.Error("at one time they held", n)
			}
		}
	}
	if m.Left() < 1000 {
		t.Fatal("too small a memory:", m.Left())
	}
	checkValues(t, m, 1, want...)
}
