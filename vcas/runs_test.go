package vcas_test

import (
	"math/rand"
	"slices"
	"strconv"
	"sync"
	"testing"

	"shutter/api"
	"shutter/arena"
	"shutter/camera"
	"shutter/step"
	"shutter/vcas"
)

// call is a proc to be done: a Read of an object, a Cas of it from a to b, an At of the stamp a, or a Take.
type call struct {
	kind byte // r, c, a, t
	of   uint64
	a, b uint64
}

// watched is a proc whose steps are looked at.
type watched struct {
	call
	step.Proc
	thread      int
	run         *run
	first, last int  // its first and last step, -1 ahead of them
	above       bool // an At: the camera stood above its stamp when it began
	swapped     int  // a Cas: how often it has put a version there
}

func (p *watched) Step(v *arena.View) bool {
	r := p.run
	if p.first < 0 {
		p.first = r.clock
		p.above = r.memory.Peek(clock) > p.a
	}
	done := p.Proc.Step(v)
	if done {
		p.last = r.clock
	}
	r.clock++
	r.look(p)
	return done
}

// version is a version at its address.
type version struct {
	addr uint64
	api.Version
}

// run is threads of calls on a memory with a camera and two objects, and what is looked at of it.
type run struct {
	t      *testing.T
	memory *arena.Memory
	runner *step.Runner
	procs  []*watched
	clock  int
	rows   map[uint64][]version // of each object, the oldest first
	values map[uint64][]uint64  // of each object its value ahead of each step, and behind the last one
}

// newRun has not begun; its memory has room for so many versions.
func newRun(t *testing.T, room int, threads [][]call) *run {
	t.Helper()
	r := &run{t: t, memory: newMemory(t, 128+3*room, 1)}
	r.memory.View(9).Alloc(make([]uint64, r.memory.Left()-3*room))
	r.rows = map[uint64][]version{}
	r.values = map[uint64][]uint64{object: {0}, second: {0}}
	var procs [][]step.Proc
	for thread, calls := range threads {
		var l []step.Proc
		for _, c := range calls {
			p := &watched{call: c, Proc: procOf(c), thread: thread, run: r, first: -1, last: -1}
			r.procs = append(r.procs, p)
			l = append(l, p)
		}
		procs = append(procs, l)
	}
	runner, errno := step.New(r.memory, procs)
	if errno != api.OK {
		t.Fatal(errno)
	}
	r.runner = runner
	return r
}

func procOf(c call) step.Proc {
	switch c.kind {
	case 'r':
		return vcas.NewRead(clock, c.of)
	case 'c':
		return vcas.NewCas(clock, c.of, c.a, c.b)
	case 'a':
		return vcas.NewAt(clock, c.of, c.a)
	}
	return camera.NewTake(clock, 100)
}

// row is an object's versions as they lie in the memory, the oldest first.
func (r *run) row(object uint64) []version {
	m := r.memory
	var l []version
	for h := m.Peek(object); h != 0; h = m.Peek(h + 2) {
		l = append(l, version{h, api.Version{Value: m.Peek(h), Stamp: m.Peek(h + 1)}})
	}
	slices.Reverse(l)
	return l
}

// look checks P9.3 and P9.4 of what the step of a proc has done.
func (r *run) look(p *watched) {
	for _, o := range []uint64{object, second} {
		row, before := r.row(o), r.rows[o]
		r.checkStamps(row)
		if len(row) > len(before) {
			r.checkGrown(p, o, before, row)
		}
		if len(row) < len(before) {
			r.t.Fatalf("%v has become %v", before, row)
		}
		for i, b := range before {
			if row[i].addr != b.addr || row[i].Value != b.Value || b.Stamp != 0 && row[i].Stamp != b.Stamp {
				r.t.Fatalf("%v has become %v", before, row)
			}
		}
		r.rows[o] = row
		r.values[o] = append(r.values[o], valueOf(row))
	}
}

func valueOf(row []version) uint64 {
	if len(row) == 0 {
		return 0
	}
	return row[len(row)-1].Value
}

// checkStamps: P9.3.
func (r *run) checkStamps(row []version) {
	for i, v := range row {
		if v.Stamp == 0 && i < len(row)-1 {
			r.t.Fatalf("an older version has no stamp: %v", row)
		}
		if i > 0 && v.Stamp != 0 && v.Stamp < row[i-1].Stamp {
			r.t.Fatalf("stamps go down: %v", row)
		}
	}
}

// checkGrown: P9.4: a version more is that of a Cas that awaited the value ahead of it.
func (r *run) checkGrown(p *watched, o uint64, before, row []version) {
	if len(row) != len(before)+1 || p.kind != 'c' || p.of != o || p.a != valueOf(before) || p.b != valueOf(row) {
		r.t.Fatalf("%+v has made %v of %v", p.call, row, before)
	}
	p.swapped++
}

// check checks P9.4, P9.5 and P9.6 of a run that is at its end.
func (r *run) check() {
	for _, p := range r.procs {
		switch q := p.Proc.(type) {
		case *vcas.Cas:
			r.checkCas(p, q)
		case *vcas.Read:
			if !slices.Contains(r.during(p), q.Value()) {
				r.t.Fatalf("a Read told %d, of %d", q.Value(), r.during(p))
			}
		case *vcas.At:
			if want := r.valueAt(p.of, p.a); p.above && q.Value() != want {
				r.t.Fatalf("an At of %d told %d, not %d: %v", p.a, q.Value(), want, r.rows[p.of])
			}
		}
	}
}

// during are the values that an object had between a proc's first and last step.
func (r *run) during(p *watched) []uint64 {
	return r.values[p.of][p.first : p.last+2]
}

func (r *run) valueAt(o, stamp uint64) uint64 {
	value := uint64(0)
	for _, v := range r.rows[o] {
		if v.Stamp != 0 && v.Stamp <= stamp {
			value = v.Value
		}
	}
	return value
}

func (r *run) checkCas(p *watched, q *vcas.Cas) {
	values := r.during(p)
	switch {
	case q.Errno() != api.OK:
		if q.Errno() != api.ErrMemory || q.Done() || p.swapped != 0 || r.memory.Left() >= 3 {
			r.t.Fatalf("%+v: %d", p.call, q.Errno())
		}
	case q.Done() && p.a == p.b:
		if p.swapped != 0 || !slices.Contains(values, p.a) {
			r.t.Fatalf("%+v was done: %d", p.call, values)
		}
	case q.Done():
		if p.swapped != 1 {
			r.t.Fatalf("%+v was done %d times", p.call, p.swapped)
		}
	default:
		other := slices.ContainsFunc(values, func(value uint64) bool { return value != p.a })
		if p.swapped != 0 || !other {
			r.t.Fatalf("%+v was not done: %d", p.call, values)
		}
	}
}

// allPicks does a run by all picks there are, and tells how many runs these were.
func allPicks(t *testing.T, room int, threads [][]call) int {
	t.Helper()
	runs := 0
	var walk func(picks []int)
	walk = func(picks []int) {
		r := newRun(t, room, threads)
		r.runner.Run(picks)
		for !r.runner.Done() {
			var left []int
			for thread := range threads {
				if r.isLeft(thread) {
					left = append(left, thread)
				}
			}
			for _, thread := range left[1:] {
				walk(append(slices.Clone(picks), thread))
			}
			picks = append(picks[:len(picks):len(picks)], left[0])
			r.runner.Pick(left[0])
		}
		r.check()
		runs++
	}
	walk(nil)
	return runs
}

// isLeft tells whether a thread has a call that has not returned.
func (r *run) isLeft(thread int) bool {
	return slices.ContainsFunc(r.procs, func(p *watched) bool { return p.thread == thread && p.last < 0 })
}

func cas(a, b uint64) call { return call{kind: 'c', of: object, a: a, b: b} }
func read() call           { return call{kind: 'r', of: object} }
func at(stamp uint64) call { return call{kind: 'a', of: object, a: stamp} }
func take() call           { return call{kind: 't'} }
func other(c call) call    { c.of = second; return c }

// P9.3 to P9.6: all orders of steps.
func TestAllPicks(t *testing.T) {
	for i, c := range []struct {
		room    int
		threads [][]call
	}{
		{5, [][]call{{cas(0, 5)}, {cas(0, 6)}}},
		{5, [][]call{{cas(0, 5)}, {cas(5, 0)}}},
		{5, [][]call{{cas(0, 5), cas(5, 6)}, {read()}}},
		{5, [][]call{{cas(0, 5)}, {take()}, {at(1)}}},
		{5, [][]call{{cas(0, 5)}, {take(), at(1), at(1)}}},
		{5, [][]call{{take(), at(1)}, {cas(0, 5), cas(5, 6)}}},
		{5, [][]call{{cas(0, 5)}, {read()}, {take()}}},
		{5, [][]call{{cas(0, 5)}, {cas(0, 0)}, {read()}}},
		{5, [][]call{{cas(0, 5), cas(5, 0)}, {cas(0, 5)}}},
		{5, [][]call{{cas(0, 5)}, {take(), cas(5, 6)}}},
		{5, [][]call{{cas(0, 5), other(read())}, {other(cas(0, 7))}}},
		{0, [][]call{{cas(0, 5)}, {cas(0, 6), read()}}},
		{1, [][]call{{cas(0, 5)}, {cas(0, 6), read()}}},
	} {
		t.Run(strconv.Itoa(i), func(t *testing.T) {
			t.Parallel()
			if runs := allPicks(t, c.room, c.threads); runs < 8 {
				t.Error("too few runs:", runs)
			}
		})
	}
}

func drawCall(r *rand.Rand) call {
	of := uint64(object + r.Intn(2))
	switch r.Intn(8) {
	case 0:
		return take()
	case 1, 2:
		return call{kind: 'r', of: of}
	case 3, 4:
		return call{kind: 'a', of: of, a: uint64(r.Intn(12))}
	}
	return call{kind: 'c', of: of, a: uint64(r.Intn(3)), b: uint64(r.Intn(3))}
}

// P9.3 to P9.6: long runs of many threads, in memories with room and without.
func TestDrawnPicks(t *testing.T) {
	dones, misses, shorts := 0, 0, 0
	for seed := range int64(600) {
		r := rand.New(rand.NewSource(seed))
		threads := make([][]call, 1+r.Intn(6))
		for i := range threads {
			for range r.Intn(16) {
				threads[i] = append(threads[i], drawCall(r))
			}
		}
		room := 100
		if seed%4 == 0 {
			room = r.Intn(8)
		}
		run := newRun(t, room, threads)
		for !run.runner.Done() {
			thread := r.Intn(len(threads))
			for range 1 + r.Intn(4)*r.Intn(4) {
				run.runner.Pick(thread)
			}
		}
		run.check()
		for _, p := range run.procs {
			if q, ok := p.Proc.(*vcas.Cas); ok && q.Done() {
				dones++
			} else if ok && q.Errno() == api.ErrMemory {
				shorts++
			} else if ok {
				misses++
			}
		}
	}
	if dones < 500 || misses < 500 || shorts < 50 {
		t.Error("too little has come up:", dones, misses, shorts)
	}
}

// P9.5: Ats of one stamp tell the same, by whomever and whenever they are done.
func TestAtsStay(t *testing.T) {
	for seed := range int64(200) {
		r := rand.New(rand.NewSource(seed))
		run := newRun(t, 20, [][]call{
			{cas(0, 1), cas(1, 2), cas(2, 3), cas(3, 4), cas(4, 5)},
			{take(), take(), take()},
			{cas(0, 9), cas(2, 8), cas(8, 3), cas(3, 7)},
		})
		told := map[uint64]uint64{}
		for !run.runner.Done() {
			for range r.Intn(6) {
				run.runner.Pick(r.Intn(3))
			}
			for stamp := range run.memory.Peek(clock) {
				p := vcas.NewAt(clock, object, stamp)
				step.Alone(run.memory.View(7), p, 100)
				if before, ok := told[stamp]; ok && before != p.Value() {
					t.Fatalf("At %d told %d, then %d", stamp, before, p.Value())
				}
				told[stamp] = p.Value()
			}
		}
		run.check()
	}
}

// P9.3 to P9.5: by goroutines over a live memory.
func TestLive(t *testing.T) {
	const threads, calls = 8, 300
	m, errno := arena.New(40000, true)
	if errno != api.OK {
		t.Fatal(errno)
	}
	m.View(-1).Alloc([]uint64{1, 0, 0})
	var dones [threads]int
	var ats [threads]map[uint64]uint64
	var wait sync.WaitGroup
	for i := range threads {
		ats[i] = map[uint64]uint64{}
		wait.Go(func() {
			v := m.View(i)
			for range calls {
				r := vcas.NewRead(clock, object)
				step.Alone(v, r, 5)
				c := vcas.NewCas(clock, object, r.Value(), r.Value()+1)
				step.Alone(v, c, 20)
				if c.Done() {
					dones[i]++
				}
				p := camera.NewTake(clock, api.MaxStamp)
				step.Alone(v, p, 2)
				a := vcas.NewAt(clock, object, p.Stamp())
				step.Alone(v, a, m.Cells())
				ats[i][p.Stamp()] = a.Value()
			}
		})
	}
	wait.Wait()
	l := vcas.Versions(m, object)
	count := 0
	for _, n := range dones {
		count += n
	}
	if len(l) != count || count == 0 {
		t.Fatal(len(l), "versions,", count, "done")
	}
	for i, got := range l {
		if got.Value != uint64(count-i) || got.Stamp == 0 || i > 0 && got.Stamp > l[i-1].Stamp {
			t.Fatal(i, got)
		}
	}
	for i := range ats {
		for stamp, value := range ats[i] {
			p := vcas.NewAt(clock, object, stamp)
			if !step.Alone(m.View(0), p, m.Cells()) || p.Value() != value {
				t.Fatalf("At %d told %d, then %d", stamp, value, p.Value())
			}
		}
	}
}
