package replay

import (
	"slices"

	"shutter/api"
	"shutter/script"
	"shutter/store"
)

// Tight is a script without picks that do nothing.
func Tight(s api.Script) (api.Script, api.Errno) {
	r, errno := run(s)
	if errno != api.OK {
		return api.Script{}, errno
	}
	tight := withoutPicks(s)
	ends := endsOf(s, r)
	for number, thread := range s.Picks {
		if thread >= 0 && thread < len(ends) && number < ends[thread] {
			tight.Picks = append(tight.Picks, thread)
		}
	}
	return tight, api.OK
}

// run is what comes of a script that is right.
func run(s api.Script) (api.Result, api.Errno) {
	if errno := script.Right(s); errno != api.OK {
		return api.Result{}, errno
	}
	return store.Run(s)
}

// withoutPicks is a script with the same operations, in lists of its own.
func withoutPicks(s api.Script) api.Script {
	other := api.Script{Config: s.Config, Threads: make([][]api.Op, len(s.Threads))}
	for thread, ops := range s.Threads {
		for _, op := range ops {
			op.Keys = append([]uint64(nil), op.Keys...)
			other.Threads[thread] = append(other.Threads[thread], op)
		}
	}
	return other
}

// endsOf has, for each thread, the first step behind the last one of its last call: from there on its picks are idle.
func endsOf(s api.Script, r api.Result) []int {
	ends := make([]int, len(s.Threads))
	for thread, ops := range s.Threads {
		if len(ops) > 0 {
			ends[thread] = len(s.Picks)
		}
	}
	for _, d := range r.Dids {
		thread := d.Span.Thread
		if d.Span.Index == len(s.Threads[thread])-1 && returned(d) {
			ends[thread] = d.Span.To + 1
		}
	}
	return ends
}

func returned(d api.Did) bool {
	return d.Span.To >= 0
}

// Serial is a script in which each call is done as a whole, in the order of their first steps.
func Serial(s api.Script) (api.Script, api.Errno) {
	r, errno := run(s)
	if errno != api.OK {
		return api.Script{}, errno
	}
	q, errno := newQueue(s)
	if errno != api.OK {
		return api.Script{}, errno
	}
	serial := withoutPicks(s)
	for _, d := range r.Dids {
		picks := slices.Repeat([]int{d.Span.Thread}, q.do(d.Span.Thread, d.Span.Index))
		serial.Picks = append(serial.Picks, picks...)
	}
	return serial, api.OK
}

// queue is a store on which a script's calls are done one behind the other.
type queue struct {
	store   *store.Store
	threads [][]api.Op
	handles [][]uint64 // of each thread what its calls have told: 0, if that was no handle, or nothing yet
}

// newQueue takes a live store: of one goroutine it is as any other, and keeps no trace of calls that may take far more steps than a run may have.
func newQueue(s api.Script) (*queue, api.Errno) {
	empty, errno := store.NewLive(s.Config)
	if errno != api.OK {
		return nil, errno
	}
	q := &queue{store: empty, threads: s.Threads}
	for _, ops := range s.Threads {
		q.handles = append(q.handles, make([]uint64, len(ops)))
	}
	return q, api.OK
}

// do does a call from its first to its last step: how many these were.
func (q *queue) do(thread, index int) int {
	op := q.threads[thread][index]
	if op.Ref.Set {
		op.Handle = q.handleOf(op.Ref)
	}
	c, v := q.store.Call(op), q.store.Memory().View(thread)
	steps := 1
	for !c.Step(v) {
		steps++
	}
	q.handles[thread][index] = c.Answer().Handle
	return steps
}

// handleOf is the handle that a call has told; 0, if there is no such call, or it has told none. (Of a right script no Ref has a number below 0.)
func (q *queue) handleOf(ref api.Ref) uint64 {
	if ref.Thread >= len(q.handles) || ref.Index >= len(q.handles[ref.Thread]) {
		return 0
	}
	return q.handles[ref.Thread][ref.Index]
}
