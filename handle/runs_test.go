package handle_test

import (
	"math/rand"
	"slices"
	"strconv"
	"sync"
	"testing"

	"shutter/announce"
	"shutter/api"
	"shutter/arena"
	"shutter/camera"
	"shutter/handle"
	"shutter/step"
)

// call is a proc to be done: a Snapshot, a Release, a query (an Open, two Loads, a Close), of a handle (0: of the last one that was told), or a Take.
type call struct {
	kind   byte // s, r, q, t
	handle uint64
}

// query is an Open, some other accesses, and a Close of the stamp that was told, if one was.
type query struct {
	slots  api.Slots
	handle uint64
	clock  *int
	open   *handle.Open
	close  *handle.Close // nil, if the Open told none
	loads  int
	opened int // the steps of the two
	closed int
}

func (p *query) Step(v *arena.View) bool {
	switch {
	case p.open == nil:
		p.open = handle.NewOpen(p.slots, p.handle)
		p.opened = *p.clock
		p.open.Step(v)
		return p.open.Errno() != api.OK
	case p.loads < 2:
		p.loads++
		v.Load(clock)
		return false
	}
	p.close = handle.NewClose(p.slots, p.handle, p.open.Stamp())
	p.closed = *p.clock
	return p.close.Step(v)
}

// watched is a proc whose steps are looked at.
type watched struct {
	call
	step.Proc
	run         *run
	thread      int
	first, last int // its first and last step, -1 ahead of them
}

func (p *watched) Step(v *arena.View) bool {
	r := p.run
	if p.first < 0 {
		p.first = r.clock
		p.begin()
	}
	done := p.Proc.Step(v)
	if done {
		p.last = r.clock
		if q, ok := p.Proc.(*announce.Snapshot); ok && q.Errno() == api.OK {
			r.told = append(r.told, q.Handle())
		}
	}
	r.clock++
	r.look()
	return done
}

func (p *watched) begin() {
	r := p.run
	if p.handle == 0 && len(r.told) > 0 {
		p.handle = r.told[len(r.told)-1]
	}
	switch p.kind {
	case 's':
		p.Proc = announce.NewSnapshot(r.slots)
	case 'r':
		p.Proc = announce.NewRelease(r.slots, p.handle)
	case 'q':
		p.Proc = &query{slots: r.slots, handle: p.handle, clock: &r.clock}
	default:
		p.Proc = camera.NewTake(r.slots.Camera, r.slots.Most)
	}
}

// run is threads of calls on slots that announce.Make made, and what is looked at of it.
type run struct {
	t       *testing.T
	memory  *arena.Memory
	slots   api.Slots
	runner  *step.Runner
	threads [][]*watched
	procs   []*watched
	clock   int
	told    []uint64
}

func newRun(t *testing.T, count int, threads [][]call) *run {
	t.Helper()
	m, errno := arena.New(128, false)
	if errno != api.OK {
		t.Fatal(errno)
	}
	m.View(9).Alloc([]uint64{1})
	r := &run{t: t, memory: m}
	r.slots, errno = announce.Make(m.View(9), clock, count, 100)
	if errno != api.OK {
		t.Fatal(errno)
	}
	var procs [][]step.Proc
	for thread, calls := range threads {
		var l []step.Proc
		var own []*watched
		for _, c := range calls {
			p := &watched{call: c, run: r, thread: thread, first: -1, last: -1}
			l, own = append(l, p), append(own, p)
		}
		procs, r.threads = append(procs, l), append(r.threads, own)
		r.procs = append(r.procs, own...)
	}
	r.runner, errno = step.New(m, procs)
	if errno != api.OK {
		t.Fatal(errno)
	}
	return r
}

// look checks P14.6: of all handles that may have been told, Live has just those of which an Open tells a stamp.
func (r *run) look() {
	now := r.memory.Fork().View(0)
	gens := uint64(2)
	for _, s := range announce.Slots(r.memory, r.slots) {
		gens = max(gens, s.Gen+2)
	}
	var want []uint64
	for gen := range gens {
		for slot := range uint64(r.slots.Count) {
			p := handle.NewOpen(r.slots, handleOf(slot, gen))
			if p.Step(now); p.Errno() == api.OK {
				want = append(want, handleOf(slot, gen))
			}
		}
	}
	if got := handle.Live(r.memory, r.slots); !slices.Equal(got, want) {
		r.t.Fatalf("live are %d, but Opens tell of %d", got, want)
	}
}

// tally is what has come up in runs.
type tally struct {
	held, never, gone, closed, stale int
}

// check checks P14.3 to P14.5 of a run that is at its end.
func (r *run) check(n *tally) {
	for _, p := range r.procs {
		if q, ok := p.Proc.(*query); ok {
			r.checkOpen(p.handle, q, n)
			r.checkClose(p.handle, q, n)
		}
	}
}

func (r *run) checkOpen(h uint64, q *query, n *tally) {
	known, behind, free, gone := false, false, true, false
	stamp := uint64(0)
	for _, o := range r.procs {
		switch p := o.Proc.(type) {
		case *announce.Snapshot:
			if p.Handle() == h && p.Errno() == api.OK {
				known, behind, stamp = true, o.last < q.opened, p.Stamp()
			}
		case *announce.Release:
			if o.handle == h && o.first < q.opened {
				free = false
				gone = gone || p.Errno() == api.OK && o.last < q.opened
			}
		}
	}
	tells := q.open.Errno() == api.OK
	switch {
	case tells && (q.open.Stamp() != stamp || !known || !behind || gone), !tells && known && behind && free:
		r.t.Fatalf("Open of %d told %d, %d: known %t, stamp %d, behind %t, let go %t", h, q.open.Stamp(), q.open.Errno(), known, stamp, behind, gone)
	case tells:
		n.held++
	case gone:
		n.gone++
	default:
		n.never++
	}
}

func (r *run) checkClose(h uint64, q *query, n *tally) {
	if q.close == nil {
		return
	}
	begun, gone := false, false
	for _, o := range r.procs {
		if p, ok := o.Proc.(*announce.Release); ok && o.handle == h {
			begun = begun || o.first < q.closed
			gone = gone || p.Errno() == api.OK && o.last < q.closed
		}
	}
	switch q.close.Errno() {
	case api.OK:
		n.closed++
		if gone {
			r.t.Fatalf("Close of %d: OK, but it was let go", h)
		}
	case api.ErrStale:
		n.stale++
		if !begun {
			r.t.Fatalf("Close of %d: ErrStale, but nobody let it go", h)
		}
	default:
		r.t.Fatal(q.close.Errno())
	}
}

// left are the threads that have calls that have not returned.
func (r *run) left() []int {
	var l []int
	for thread, calls := range r.threads {
		if len(calls) > 0 && calls[len(calls)-1].last < 0 {
			l = append(l, thread)
		}
	}
	return l
}

// allPicks does a run by all picks there are that go at most so many times from one thread, that could have gone on, to another; it tells how many runs these were.
func allPicks(t *testing.T, switches, count int, threads [][]call, n *tally) int {
	t.Helper()
	runs := 0
	var walk func(picks []int, switched int)
	walk = func(picks []int, switched int) {
		r := newRun(t, count, threads)
		r.runner.Run(picks)
		for l := r.left(); len(l) > 0; l = r.left() {
			next, more := l[0], switched
			if len(picks) > 0 && slices.Contains(l, picks[len(picks)-1]) {
				next = picks[len(picks)-1]
				more++
			}
			for _, thread := range l {
				if thread != next && more <= switches {
					walk(append(slices.Clone(picks), thread), more)
				}
			}
			picks = append(picks[:len(picks):len(picks)], next)
			r.runner.Pick(next)
		}
		r.check(n)
		runs++
	}
	walk(nil, 0)
	return runs
}

func snapshot() call        { return call{kind: 's'} }
func release(h uint64) call { return call{'r', h} }
func queryOf(h uint64) call { return call{'q', h} }
func take() call            { return call{kind: 't'} }

// P14.3 to P14.6: all orders of steps, as far as threads are switched not too often.
func TestAllPicks(t *testing.T) {
	const all = 100
	for i, c := range []struct {
		switches, count int
		threads         [][]call
	}{
		{all, 1, [][]call{{snapshot()}, {queryOf(1)}}},
		{all, 1, [][]call{{snapshot(), release(1)}, {queryOf(1)}}},
		{all, 2, [][]call{{snapshot(), queryOf(1), release(1)}, {queryOf(1)}}},
		{all, 1, [][]call{{snapshot(), queryOf(1)}, {release(1)}}},
		{6, 1, [][]call{{snapshot(), release(1), snapshot()}, {queryOf(1), queryOf(65537)}}},
		{4, 1, [][]call{{snapshot(), queryOf(1)}, {release(1), snapshot()}, {queryOf(1)}}},
		{3, 2, [][]call{{snapshot()}, {snapshot(), release(1)}, {queryOf(1), queryOf(2)}}},
		{5, 1, [][]call{{snapshot(), queryOf(1)}, {take()}, {release(1)}}},
	} {
		t.Run(strconv.Itoa(i), func(t *testing.T) {
			t.Parallel()
			var n tally
			if runs := allPicks(t, c.switches, c.count, c.threads, &n); runs < 8 || n.held == 0 || n.closed == 0 {
				t.Error("too little:", runs, n)
			}
		})
	}
}

func drawCall(r *rand.Rand) call {
	h := uint64(0)
	if r.Intn(3) == 0 {
		h = handleOf(uint64(r.Intn(4)), uint64(r.Intn(3)))
	}
	switch r.Intn(10) {
	case 0:
		return take()
	case 1, 2, 3:
		return release(h)
	case 4, 5, 6:
		return snapshot()
	}
	return queryOf(h)
}

// P14.3 to P14.6: long runs of many threads.
func TestDrawnPicks(t *testing.T) {
	var n tally
	for seed := range int64(500) {
		r := rand.New(rand.NewSource(seed))
		threads := make([][]call, 1+r.Intn(6))
		for i := range threads {
			for range r.Intn(14) {
				threads[i] = append(threads[i], drawCall(r))
			}
		}
		run := newRun(t, 1+r.Intn(4), threads)
		for !run.runner.Done() {
			thread := r.Intn(len(threads))
			for range 1 + r.Intn(4)*r.Intn(4) {
				run.runner.Pick(thread)
			}
		}
		run.check(&n)
	}
	if n.held < 500 || n.never < 200 || n.gone < 300 || n.closed < 300 || n.stale < 100 {
		t.Errorf("too little has come up: %+v", n)
	}
}

// P14.3 to P14.5: by goroutines over a live memory: a handle holds for the one that was told it till that lets it go, and for nobody behind that.
func TestLiveGoroutines(t *testing.T) {
	const threads, calls, count = 8, 400, 5
	m, errno := arena.New(128, true)
	if errno != api.OK {
		t.Fatal(errno)
	}
	m.View(-1).Alloc([]uint64{1})
	s, errno := announce.Make(m.View(-1), clock, count, api.MaxStamp)
	if errno != api.OK {
		t.Fatal(errno)
	}
	ask := func(v *arena.View, h, stamp uint64, held bool) {
		p, q := handle.NewOpen(s, h), handle.NewClose(s, h, stamp)
		p.Step(v)
		q.Step(v)
		if held != (p.Errno() == api.OK) || held != (q.Errno() == api.OK) || held && p.Stamp() != stamp {
			t.Errorf("handle %d, stamp %d: %d, %d, %d", h, stamp, p.Stamp(), p.Errno(), q.Errno())
		}
	}
	var wait sync.WaitGroup
	for i := range threads {
		wait.Go(func() {
			v := m.View(i)
			for range calls {
				p := announce.NewSnapshot(s)
				step.Alone(v, p, 2*count+5)
				if p.Errno() == api.ErrSlot {
					continue
				}
				ask(v, p.Handle(), p.Stamp(), true)
				step.Alone(v, announce.NewRelease(s, p.Handle()), 2)
				ask(v, p.Handle(), p.Stamp(), false)
			}
		})
	}
	wait.Wait()
	if l := handle.Live(m, s); len(l) != 0 {
		t.Error(l)
	}
}
