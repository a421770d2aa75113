package announce_test

import (
	"math/rand"
	"slices"
	"strconv"
	"sync"
	"testing"

	"shutter/announce"
	"shutter/api"
	"shutter/arena"
	"shutter/camera"
	"shutter/step"
	"shutter/word"
)

// call is a proc to be done: a Snapshot, a Release (of a handle; of 0: of the last one that its thread was told), a Scan, or a Take.
type call struct {
	kind   byte // s, r, n, t
	handle uint64
}

// watched is a proc whose steps are looked at.
type watched struct {
	call
	step.Proc
	run      *run
	thread   int
	accesses []int // their numbers in the trace
	holds    bool  // a Release: its handle held ahead of its first step
	over     bool
}

func (p *watched) Step(v *arena.View) bool {
	r := p.run
	if p.Proc == nil {
		p.begin()
	}
	from := r.memory.Made()
	p.over = p.Proc.Step(v)
	if r.memory.Made() > from {
		p.accesses = append(p.accesses, from)
	}
	if p.over {
		r.note(p)
	}
	r.look()
	return p.over
}

func (p *watched) begin() {
	r := p.run
	switch p.kind {
	case 's':
		p.Proc = announce.NewSnapshot(r.slots)
	case 'r':
		if p.handle == 0 {
			p.handle = r.own[p.thread]
		}
		_, p.holds = r.held[p.handle]
		p.Proc = announce.NewRelease(r.slots, p.handle)
	case 'n':
		p.Proc = announce.NewScan(r.slots)
	default:
		p.Proc = camera.NewTake(r.slots.Camera, r.slots.Most)
	}
}

// run is threads of calls on slots that Make made, and what is looked at of it.
type run struct {
	t       *testing.T
	memory  *arena.Memory
	slots   api.Slots
	runner  *step.Runner
	threads [][]*watched
	procs   []*watched
	held    map[uint64]uint64 // the handles that hold, with their stamps
	told    map[uint64]int    // how often a handle was told
	letGo   map[uint64]int    // when it was let go: the number of the access
	own     map[int]uint64    // the handle that a thread was told last
}

func newRun(t *testing.T, count int, most uint64, threads [][]call) *run {
	t.Helper()
	m, errno := arena.New(300, false)
	if errno != api.OK {
		t.Fatal(errno)
	}
	m.View(9).Alloc([]uint64{1})
	r := &run{t: t, memory: m, held: map[uint64]uint64{}, told: map[uint64]int{}, letGo: map[uint64]int{}, own: map[int]uint64{}}
	r.slots, errno = announce.Make(m.View(9), clock, count, most)
	if errno != api.OK {
		t.Fatal(errno)
	}
	var procs [][]step.Proc
	for thread, calls := range threads {
		var l []step.Proc
		var own []*watched
		for _, c := range calls {
			p := &watched{call: c, run: r, thread: thread}
			l, own = append(l, p), append(own, p)
		}
		procs, r.threads = append(procs, l), append(r.threads, own)
		r.procs = append(r.procs, own...)
	}
	r.runner, errno = step.New(m, procs)
	if errno != api.OK {
		t.Fatal(errno)
	}
	return r
}

// note checks P13.3, P13.4 and P13.6 of a proc that has returned.
func (r *run) note(p *watched) {
	most := 2
	switch q := p.Proc.(type) {
	case *announce.Snapshot:
		most = 2*r.slots.Count + 5
		if q.Errno() == api.OK {
			r.noteHandle(p, q)
		}
	case *announce.Release:
		_, holds := r.held[p.handle]
		if q.Errno() == api.OK {
			if !holds {
				r.t.Fatalf("%d was let go, that did not hold", p.handle)
			}
			delete(r.held, p.handle)
			r.letGo[p.handle] = r.memory.Made() - 1
		} else if p.holds && holds {
			r.t.Fatalf("%d holds, and was not let go", p.handle)
		}
	case *announce.Scan:
		most = r.slots.Count + 1
	}
	if len(p.accesses) > most {
		r.t.Fatalf("%c made %d accesses", p.kind, len(p.accesses))
	}
}

func (r *run) noteHandle(p *watched, q *announce.Snapshot) {
	r.told[q.Handle()]++
	r.held[q.Handle()] = q.Stamp()
	r.own[p.thread] = q.Handle()
	if r.told[q.Handle()] != 1 {
		r.t.Fatalf("the handle %d was told twice", q.Handle())
	}
	if _, a := r.announced(p, api.Early); q.Stamp() < a || r.memory.Peek(clock) <= q.Stamp() {
		r.t.Fatalf("stamp %d, announced %d, camera %d", q.Stamp(), a, r.memory.Peek(clock))
	}
}

// announced is when a Snapshot let its slot say something of a kind (the number of the access), and with which stamp.
func (r *run) announced(p *watched, kind api.SlotKind) (int, uint64) {
	trace := r.memory.Trace()
	for _, at := range p.accesses {
		if s := word.Unpack(trace[at].A); trace[at].Kind == api.Store && s.Kind == kind {
			return at, s.Stamp
		}
	}
	r.t.Fatal("a Snapshot has not announced")
	return 0, 0
}

// look checks P13.3: the slots that are Exact are just those of the handles that hold.
func (r *run) look() {
	count := 0
	for i, s := range announce.Slots(r.memory, r.slots) {
		if s.Kind != api.Exact {
			continue
		}
		count++
		h, _ := word.Handle(i, s.Gen)
		if stamp, ok := r.held[h]; !ok || stamp != s.Stamp {
			r.t.Fatalf("%d is announced with %d, but %v hold", h, s.Stamp, r.held)
		}
	}
	if count != len(r.held) {
		r.t.Fatalf("%v hold, but %v are announced", r.held, announce.Slots(r.memory, r.slots))
	}
}

// check checks P13.5 of a run that is at its end, and tells of how many Scans that looked at a slot while it was Early, and how many while it was Exact, of a Snapshot that returned.
func (r *run) check() (int, int) {
	early, exact := 0, 0
	for _, p := range r.procs {
		q, ok := p.Proc.(*announce.Snapshot)
		if !ok || q.Errno() != api.OK {
			continue
		}
		slot, _, _ := word.Unhandle(q.Handle())
		begins, a := r.announced(p, api.Early)
		ends, _ := r.announced(p, api.Exact)
		gone, ok := r.letGo[q.Handle()]
		if !ok {
			gone = r.memory.Made()
		}
		for _, n := range r.procs {
			scan, ok := n.Proc.(*announce.Scan)
			if !ok {
				continue
			}
			need, at := scan.Need(), n.accesses[1+slot]
			good := true
			switch {
			case at < begins:
				good = q.Stamp() >= need.Floor
			case at < ends:
				good = a >= need.Floor
				early++
			case at < gone:
				good = q.Stamp() >= need.Floor || slices.Contains(need.Stamps, q.Stamp())
				exact++
			}
			if !good {
				r.t.Fatalf("a Scan told %+v, and a Snapshot has %d, announced with %d:\n%s", need, q.Stamp(), a, made(r.memory, 2))
			}
		}
	}
	return early, exact
}

// left are the threads that have calls that have not returned.
func (r *run) left() []int {
	var l []int
	for thread, calls := range r.threads {
		if len(calls) > 0 && !calls[len(calls)-1].over {
			l = append(l, thread)
		}
	}
	return l
}

// allPicks does a run by all picks there are that go at most so many times from one thread, that could have gone on, to another; it tells how many runs these were.
func allPicks(t *testing.T, switches, count int, most uint64, threads [][]call) int {
	t.Helper()
	runs := 0
	var walk func(picks []int, switched int)
	walk = func(picks []int, switched int) {
		r := newRun(t, count, most, threads)
		r.runner.Run(picks)
		for l := r.left(); len(l) > 0; l = r.left() {
			next, more := l[0], switched
			if len(picks) > 0 && slices.Contains(l, picks[len(picks)-1]) {
				next = picks[len(picks)-1]
				more++
			}
			for _, thread := range l {
				if thread != next && more <= switches {
					walk(append(slices.Clone(picks), thread), more)
				}
			}
			picks = append(picks[:len(picks):len(picks)], next)
			r.runner.Pick(next)
		}
		r.check()
		runs++
	}
	walk(nil, 0)
	return runs
}

func snapshot() call             { return call{kind: 's'} }
func release(handle uint64) call { return call{'r', handle} }
func scan() call                 { return call{kind: 'n'} }
func take() call                 { return call{kind: 't'} }

// P13.3 to P13.6: all orders of steps, as far as threads are switched not too often.
func TestAllPicks(t *testing.T) {
	const all = 100
	for i, c := range []struct {
		switches, count int
		most            uint64
		threads         [][]call
	}{
		{all, 1, 100, [][]call{{snapshot()}, {scan()}}},
		{all, 1, 100, [][]call{{snapshot()}, {snapshot()}}},
		{8, 2, 100, [][]call{{snapshot()}, {snapshot()}}},
		{all, 2, 100, [][]call{{snapshot(), release(1)}, {scan()}}},
		{all, 1, 100, [][]call{{snapshot(), snapshot()}, {release(1)}, {release(1)}}},
		{6, 1, 100, [][]call{{snapshot(), release(0)}, {snapshot(), release(0)}}},
		{6, 2, 100, [][]call{{snapshot(), release(0), snapshot()}, {scan(), release(1)}}},
		{6, 1, 100, [][]call{{snapshot(), release(1), snapshot()}, {release(1), release(65537)}}},
		{5, 1, 100, [][]call{{snapshot()}, {take(), take()}, {scan()}}},
		{4, 2, 100, [][]call{{snapshot()}, {snapshot()}, {scan()}}},
		{7, 2, 2, [][]call{{snapshot()}, {snapshot()}}},
		{6, 1, 3, [][]call{{snapshot(), release(0), snapshot(), release(0), snapshot()}, {take(), scan()}}},
	} {
		t.Run(strconv.Itoa(i), func(t *testing.T) {
			t.Parallel()
			if runs := allPicks(t, c.switches, c.count, c.most, c.threads); runs < 36 {
				t.Error("too few runs:", runs)
			}
		})
	}
}

func drawCall(r *rand.Rand) call {
	switch r.Intn(12) {
	case 0:
		return take()
	case 1, 2, 3:
		return scan()
	case 4:
		return release(uint64(1+r.Intn(4)) + uint64(r.Intn(4))<<16)
	case 5, 6, 7:
		return release(0)
	}
	return snapshot()
}

// P13.3 to P13.6: long runs of many threads, with many slots and few, stamps that last and stamps that do not.
func TestDrawnPicks(t *testing.T) {
	errnos := map[api.Errno]int{}
	early, exact := 0, 0
	for seed := range int64(600) {
		r := rand.New(rand.NewSource(seed))
		threads := make([][]call, 1+r.Intn(6))
		for i := range threads {
			for range r.Intn(16) {
				threads[i] = append(threads[i], drawCall(r))
			}
		}
		most := uint64(100)
		if seed%5 == 0 {
			most = uint64(1 + r.Intn(8))
		}
		run := newRun(t, 1+r.Intn(6), most, threads)
		for !run.runner.Done() {
			thread := r.Intn(len(threads))
			for range 1 + r.Intn(4)*r.Intn(4) {
				run.runner.Pick(thread)
			}
		}
		a, b := run.check()
		early, exact = early+a, exact+b
		for _, p := range run.procs {
			if p.kind == 's' || p.kind == 'r' {
				errnos[tellsOf(p.Proc).Errno]++
			}
		}
	}
	if early < 200 || exact < 500 || errnos[api.ErrSlot] < 500 || errnos[api.ErrStamp] < 50 || errnos[api.ErrHandle] < 500 || errnos[api.OK] < 500 {
		t.Error("too little has come up:", early, exact, errnos)
	}
}

// P13.3, P13.5: by goroutines over a live memory, with fewer slots than there are of them.
func TestLive(t *testing.T) {
	const threads, calls, count = 8, 400, 5
	m, errno := arena.New(128, true)
	if errno != api.OK {
		t.Fatal(errno)
	}
	m.View(-1).Alloc([]uint64{1})
	s, errno := announce.Make(m.View(-1), clock, count, api.MaxStamp)
	if errno != api.OK {
		t.Fatal(errno)
	}
	var handles [threads][]uint64
	var wait sync.WaitGroup
	for i := range threads {
		wait.Go(func() {
			v := m.View(i)
			for range calls {
				p := announce.NewSnapshot(s)
				step.Alone(v, p, 2*count+5)
				if p.Errno() == api.ErrSlot {
					continue
				}
				n := announce.NewScan(s)
				if !step.Alone(v, n, count+1) || n.Need().Floor == 0 {
					t.Error("a Scan told", n.Need())
				}
				if need := n.Need(); p.Stamp() < need.Floor && !slices.Contains(need.Stamps, p.Stamp()) {
					t.Errorf("%d is missed: %+v", p.Stamp(), need)
				}
				r := announce.NewRelease(s, p.Handle())
				if !step.Alone(v, r, 2) || r.Errno() != api.OK {
					t.Error(p.Handle(), r.Errno())
				}
				handles[i] = append(handles[i], p.Handle())
			}
		})
	}
	wait.Wait()
	seen := map[uint64]int{}
	for _, l := range handles {
		for _, h := range l {
			seen[h]++
			if seen[h] > 1 {
				t.Error("told twice:", h)
			}
		}
	}
	gens := 0
	for _, slot := range announce.Slots(m, s) {
		if slot.Kind != api.Free {
			t.Error(slot)
		}
		gens += int(slot.Gen)
	}
	if gens != len(seen) || gens < calls {
		t.Error("generations and handles:", gens, len(seen))
	}
}
