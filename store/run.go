package store

import (
	"shutter/api"
	"shutter/step"
)

// pending is the last step of a call that has not returned.
const pending = -1

// run is a script that is done on a store.
type run struct {
	store *Store
	calls [][]*Call // of each thread
}

// Run does a script.
func Run(s api.Script) (api.Result, api.Errno) {
	store, errno := New(s.Config)
	if errno != api.OK {
		return api.Result{}, errno
	}
	if len(s.Picks) > api.MaxPicks || tooLong(s.Threads) {
		return api.Result{}, api.ErrLong
	}
	r := &run{store: store}
	runner, errno := step.New(store.memory, r.procsOf(s.Threads))
	if errno != api.OK {
		return api.Result{}, errno
	}
	// What laid the store was no step of the script.
	laid := store.memory.Made()
	runner.Run(s.Picks)
	return api.Result{
		Dids:  r.dids(runner.Events()),
		Trace: store.memory.Trace()[laid:],
		Steps: runner.At()[laid:],
	}, api.OK
}

func tooLong(threads [][]api.Op) bool {
	if len(threads) > api.MaxThreads {
		return true
	}
	for _, ops := range threads {
		if len(ops) > api.MaxCalls {
			return true
		}
	}
	return false
}

// procsOf are the threads' operations as calls, which find out their handles when they begin.
func (r *run) procsOf(threads [][]api.Op) [][]step.Proc {
	procs := make([][]step.Proc, len(threads))
	r.calls = make([][]*Call, len(threads))
	for i, ops := range threads {
		for _, op := range ops {
			c := r.store.Call(op)
			c.resolve = r.resolve
			r.calls[i] = append(r.calls[i], c)
			procs[i] = append(procs[i], c)
		}
	}
	return procs
}

// resolve is an operation with its handle in the place of a Ref.
func (r *run) resolve(op api.Op) api.Op {
	if op.Ref.Set {
		op.Handle = r.handleOf(op.Ref)
	}
	op.Ref = api.Ref{}
	return op
}

// handleOf is the handle that a call has told; 0, if there is no such call, or it has told none.
func (r *run) handleOf(ref api.Ref) uint64 {
	if ref.Thread < 0 || ref.Thread >= len(r.calls) {
		return 0
	}
	calls := r.calls[ref.Thread]
	if ref.Index < 0 || ref.Index >= len(calls) {
		return 0
	}
	return calls[ref.Index].told.Handle
}

// dids are the operations that have begun, by their first steps.
func (r *run) dids(events []api.Event) []api.Did {
	var l []api.Did
	last := make([]int, len(r.calls)) // of each thread the number of its last one
	for _, e := range events {
		if e.Return {
			did := &l[last[e.Thread]]
			did.Span.To = e.Step
			did.Answer = r.calls[e.Thread][e.Index].Answer()
			continue
		}
		last[e.Thread] = len(l)
		l = append(l, api.Did{
			Span: api.Span{Thread: e.Thread, Index: e.Index, From: e.Step, To: pending},
			Op:   r.calls[e.Thread][e.Index].op,
		})
	}
	return l
}
