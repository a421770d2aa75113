package store_test

import (
	"reflect"
	"slices"
	"testing"

	"shutter/api"
	"shutter/arena"
	"shutter/hist"
	"shutter/step"
	"shutter/store"
)

// run does a script.
func run(t *testing.T, s api.Script) api.Result {
	t.Helper()
	r, errno := store.Run(s)
	if errno != api.OK {
		t.Fatal(errno)
	}
	return r
}

// later is a call of a script, as the chapter says it: when it begins, its Ref is looked up.
type later struct {
	store *store.Store
	calls [][]*later
	op    api.Op
	call  *store.Call
	over  bool
}

func (p *later) Step(v *arena.View) bool {
	if p.call == nil {
		if ref := p.op.Ref; ref.Set {
			p.op.Handle = 0
			if ref.Thread >= 0 && ref.Thread < len(p.calls) && ref.Index >= 0 && ref.Index < len(p.calls[ref.Thread]) {
				if named := p.calls[ref.Thread][ref.Index]; named.over {
					p.op.Handle = named.call.Answer().Handle
				}
			}
		}
		p.op.Ref = api.Ref{}
		p.call = p.store.Call(p.op)
	}
	p.over = p.call.Step(v)
	return p.over
}

// doing is a script that is done by the store's calls and a runner, without store.Run.
type doing struct {
	store  *store.Store
	runner *step.Runner
	calls  [][]*later
}

func begin(t *testing.T, s api.Script) *doing {
	t.Helper()
	d := &doing{store: newStore(t, s.Config)}
	d.calls = make([][]*later, len(s.Threads))
	procs := make([][]step.Proc, len(s.Threads))
	for i, ops := range s.Threads {
		for _, op := range ops {
			p := &later{store: d.store, calls: d.calls, op: op}
			d.calls[i] = append(d.calls[i], p)
			procs[i] = append(procs[i], p)
		}
	}
	var errno api.Errno
	if d.runner, errno = step.New(d.store.Memory(), procs); errno != api.OK {
		t.Fatal(errno)
	}
	return d
}

// left are the threads that have calls that have not returned.
func (d *doing) left() []int {
	var l []int
	for thread, calls := range d.calls {
		if len(calls) > 0 && !calls[len(calls)-1].over {
			l = append(l, thread)
		}
	}
	return l
}

// result is what has come of it.
func (d *doing) result(t *testing.T) api.Result {
	t.Helper()
	var r api.Result
	if events := d.runner.Events(); len(events) > 0 {
		spans, errno := hist.Spans(events)
		if errno != api.OK {
			t.Fatal(errno)
		}
		for _, span := range spans {
			p := d.calls[span.Thread][span.Index]
			did := api.Did{Span: span, Op: p.op}
			if p.over {
				did.Answer = p.call.Answer()
			}
			r.Dids = append(r.Dids, did)
		}
	}
	at := d.runner.At()
	for i, a := range d.store.Memory().Trace() {
		if at[i] >= 0 {
			r.Trace = append(r.Trace, a)
			r.Steps = append(r.Steps, at[i])
		}
	}
	return r
}

// plain has nil in the place of empty lists.
func plain(r api.Result) api.Result {
	out := api.Result{Steps: append([]int(nil), r.Steps...)}
	for _, d := range r.Dids {
		d.Op.Keys = append([]uint64(nil), d.Op.Keys...)
		d.Answer.Pairs = append([]api.Pair(nil), d.Answer.Pairs...)
		out.Dids = append(out.Dids, d)
	}
	for _, a := range r.Trace {
		a.Values = append([]uint64(nil), a.Values...)
		out.Trace = append(out.Trace, a)
	}
	return out
}

// checkSame checks P16.3: Run tells what has come of the script, done as the chapter says.
func checkSame(t *testing.T, s api.Script, d *doing) api.Result {
	t.Helper()
	got := plain(run(t, s))
	if want := plain(d.result(t)); !reflect.DeepEqual(got, want) {
		t.Fatalf("the script %+v comes to\n%+v\nnot\n%+v", s, got, want)
	}
	return got
}

func refTo(thread, index int) api.Ref { return api.Ref{Set: true, Thread: thread, Index: index} }

// times is a pick so many times.
func times(thread, n int) []int { return slices.Repeat([]int{thread}, n) }

// The chapter's example 3.
func TestExampleOfARef(t *testing.T) {
	s := api.Script{Config: whole, Threads: [][]api.Op{{snapshot}, {{Kind: api.Count, Ref: refTo(0, 0), Hi: 100}}}, Picks: []int{1, 1}}
	r := run(t, s)
	want := []api.Did{{Span: api.Span{Thread: 1}, Op: api.Op{Kind: api.Count, Hi: 100}, Answer: failed(api.ErrHandle)}}
	if !reflect.DeepEqual(r.Dids, want) || len(r.Trace) != 0 || len(r.Steps) != 0 {
		t.Errorf("%+v", r)
	}
}

// P16.3: a script by hand: the steps of idle picks count, accesses of pending calls are told, operations that have not begun are not.
func TestRun(t *testing.T) {
	s := api.Script{
		Config:  whole,
		Threads: [][]api.Op{{put(7, 1), get(7)}, {get(7), get(8)}, nil},
		Picks:   []int{2, 1, 0, -1, 0, 3, 64, 1},
	}
	r := run(t, s)
	dids := []api.Did{
		{Span: api.Span{Thread: 1, From: 1, To: 1}, Op: get(7)},
		{Span: api.Span{Thread: 0, From: 2, To: -1}, Op: put(7, 1)},
		{Span: api.Span{Thread: 1, Index: 1, From: 7, To: 7}, Op: get(8)},
	}
	trace := []api.Access{
		{Thread: 1, Kind: api.Load, Addr: 6},
		{Thread: 0, Kind: api.Load, Addr: 6},
		{Thread: 0, Kind: api.Alloc, Addr: 68, Values: []uint64{7, 1}},
		{Thread: 1, Kind: api.Load, Addr: r.Trace[3].Addr},
	}
	if !reflect.DeepEqual(plain(r), api.Result{Dids: dids, Trace: trace, Steps: []int{1, 2, 4, 7}}) {
		t.Errorf("%+v", r)
	}
}

// P16.3: nothing is done without picks, or without threads.
func TestRunOfNothing(t *testing.T) {
	for _, s := range []api.Script{
		{Config: whole},
		{Config: whole, Threads: [][]api.Op{{get(7)}}},
		{Config: whole, Threads: [][]api.Op{nil, {}}, Picks: []int{0, 1, 2}},
		{Config: whole, Picks: times(0, 20)},
	} {
		if r := run(t, s); len(r.Dids) != 0 || len(r.Trace) != 0 || len(r.Steps) != 0 {
			t.Errorf("%+v comes to %+v", s, r)
		}
	}
}

// P16.3: Refs: the handle is that of a call that has returned by the step at which the operation begins.
func TestRefs(t *testing.T) {
	count := func(ref api.Ref) api.Op { return api.Op{Kind: api.Count, Ref: ref, Handle: 1, Hi: 100} }
	// The thread 0 is done by 8 + 7 steps, and by one more.
	first := []api.Op{put(7, 1), snapshot, get(8)}
	for _, c := range []struct {
		ref    api.Ref
		picks  []int
		handle uint64
	}{
		{refTo(0, 1), append(times(0, 15), 1), 1},
		{refTo(0, 1), append(times(0, 14), 1, 0), 0}, // it returns behind that
		{refTo(0, 1), append(times(0, 8), 1), 0},     // it has not begun
		{refTo(0, 0), append(times(0, 15), 1), 0},    // a Put tells none
		{refTo(0, 2), append(times(0, 16), 1), 0},
		{refTo(0, 3), append(times(0, 16), 1), 0}, // there is no such call
		{refTo(0, -1), append(times(0, 16), 1), 0},
		{refTo(-1, 0), append(times(0, 16), 1), 0},
		{refTo(2, 0), append(times(0, 16), 1), 0},
		{refTo(1<<40, 1<<40), append(times(0, 16), 1), 0},
		{refTo(1, 0), append(times(0, 16), 1), 0}, // itself
		{refTo(1, 1), append(times(0, 16), 1), 0},
		{api.Ref{Thread: 0, Index: 1}, append(times(0, 15), 1), 1}, // it is not Set: its Handle
		{api.Ref{Thread: 5, Index: 7}, append(times(0, 15), 1), 1},
	} {
		s := api.Script{Config: whole, Threads: [][]api.Op{first, {count(c.ref), snapshot}}, Picks: append(c.picks, times(1, 100)...)}
		r := run(t, s)
		i := slices.IndexFunc(r.Dids, func(d api.Did) bool { return d.Op.Kind == api.Count })
		want := failed(api.ErrHandle)
		if c.handle != 0 {
			want = counted(1)
		}
		if op := r.Dids[i].Op; op.Ref != (api.Ref{}) || op.Handle != c.handle || !reflect.DeepEqual(r.Dids[i].Answer, want) {
			t.Errorf("%+v comes to %+v", c.ref, r.Dids[i])
		}
	}
}

// P16.3: a Ref to a Snapshot that told an error is the handle 0; a Ref counts for whatever operation.
func TestRefsOfOthers(t *testing.T) {
	c := whole
	c.Slots = 1
	s := api.Script{
		Config: c,
		Threads: [][]api.Op{{
			snapshot, snapshot,
			{Kind: api.Release, Ref: refTo(0, 1)},
			{Kind: api.Get, Key: 7, Ref: refTo(0, 0), Handle: 5},
			{Kind: api.Release, Ref: refTo(0, 0), Handle: 5},
			{Kind: api.Release, Ref: refTo(0, 0)},
			{Kind: api.Release, Ref: refTo(0, 4)},
		}},
		Picks: times(0, 100),
	}
	r := run(t, s)
	var handles []uint64
	var errnos []api.Errno
	for _, d := range r.Dids {
		handles = append(handles, d.Op.Handle)
		errnos = append(errnos, d.Answer.Errno)
	}
	if !slices.Equal(handles, []uint64{0, 0, 0, 1, 1, 1, 0}) {
		t.Error(handles)
	}
	if !slices.Equal(errnos, []api.Errno{0, api.ErrSlot, api.ErrHandle, 0, 0, api.ErrHandle, api.ErrHandle}) {
		t.Error(errnos)
	}
}

// P16.3: how much may be, and what is told first.
func TestRunErrors(t *testing.T) {
	threads := func(count, calls int) [][]api.Op {
		l := make([][]api.Op, count)
		l[count-1] = slices.Repeat([]api.Op{get(7)}, calls)
		return l
	}
	short := api.Config{Cells: 128, Slots: 63, Stamps: 1, Multi: 1}
	for i, c := range []struct {
		s     api.Script
		errno api.Errno
	}{
		{api.Script{Config: whole, Threads: threads(api.MaxThreads, 1)}, api.OK},
		{api.Script{Config: whole, Threads: threads(api.MaxThreads+1, 0)}, api.ErrLong},
		{api.Script{Config: whole, Threads: threads(2, api.MaxCalls)}, api.OK},
		{api.Script{Config: whole, Threads: threads(1, api.MaxCalls+1)}, api.ErrLong},
		{api.Script{Config: whole, Threads: threads(api.MaxThreads, api.MaxCalls+1)}, api.ErrLong},
		{api.Script{Config: whole, Threads: threads(64, 4096), Picks: times(63, api.MaxPicks)}, api.OK},
		{api.Script{Config: whole, Picks: times(0, api.MaxPicks+1)}, api.ErrLong},
		{api.Script{Config: short, Threads: threads(65, 1)}, api.ErrMemory},
		{api.Script{Config: short, Picks: times(0, api.MaxPicks+1)}, api.ErrMemory},
		{api.Script{Threads: threads(65, 1)}, api.ErrRange},
		{api.Script{Config: short, Threads: threads(1, 1)}, api.ErrMemory},
	} {
		r, errno := store.Run(c.s)
		if errno != c.errno || errno != api.OK && !reflect.DeepEqual(r, api.Result{}) {
			t.Errorf("script %d: %d, not %d", i, errno, c.errno)
		}
		if errno == api.OK && len(c.s.Picks) > 0 && len(r.Dids) != api.MaxCalls {
			t.Errorf("script %d: %d have begun", i, len(r.Dids))
		}
	}
}

// P3: a script stays as it is, and shares nothing with what comes of it.
func TestScriptsStay(t *testing.T) {
	make := func() api.Script {
		keys := []uint64{7, 8, 9, 10}
		ask := api.Op{Kind: api.MultiGet, Ref: refTo(0, 1), Keys: keys[:2]}
		return api.Script{Config: whole, Threads: [][]api.Op{{put(7, 1), snapshot, ask, ask}}, Picks: times(0, 100)}
	}
	s := make()
	r := run(t, s)
	if !reflect.DeepEqual(s, make()) || !slices.Equal(s.Threads[0][2].Keys[:4], []uint64{7, 8, 9, 10}) {
		t.Errorf("%+v", s)
	}
	d := r.Dids
	if len(d) != 4 || !slices.Equal(d[2].Op.Keys, []uint64{7, 8}) || !slices.Equal(d[3].Answer.Pairs, pairs(7, 1)) {
		t.Fatalf("%+v", d)
	}
	for i := range d[2].Op.Keys {
		d[2].Op.Keys[i] = 99
	}
	_ = append(d[2].Op.Keys[:0], 99, 99)
	d[2].Answer.Pairs[0] = api.Pair{}
	for i := range r.Trace {
		for j := range r.Trace[i].Values {
			r.Trace[i].Values[j] = 99
		}
	}
	if !reflect.DeepEqual(s, make()) || !slices.Equal(d[3].Op.Keys, []uint64{7, 8}) || !slices.Equal(d[3].Answer.Pairs, pairs(7, 1)) {
		t.Error("what comes of a script shares lists")
	}
	if again := run(t, s); !slices.Equal(again.Dids[2].Op.Keys, []uint64{7, 8}) {
		t.Errorf("%+v", again.Dids)
	}
}
