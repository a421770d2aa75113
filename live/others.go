package live

import (
	"math"

	"shutter/api"
	"shutter/arena"
)

// view is that of a goroutine that is no thread: its number is behind those of all threads.
func (r *free) view(i int) *arena.View {
	return r.store.Memory().View(len(r.threads) + i)
}

// tell does an operation that takes no tickets: what it tells.
func (r *free) tell(v *arena.View, op api.Op) api.Answer {
	call := r.store.Call(op)
	for !call.Step(v) {
	}
	return call.Answer()
}

// isClosed asks without waiting.
func isClosed(ended <-chan struct{}) bool {
	select {
	case <-ended:
		return true
	default:
		return false
	}
}

// collect does Collects, at least one, till all threads have ended.
func (r *free) collect(i int, ended <-chan struct{}) {
	v := r.view(i)
	for over := false; !over; over = isClosed(ended) {
		r.tell(v, api.Op{Kind: api.Collect})
	}
}

// look takes pictures till all threads have ended, and one more then: what these told.
func (r *free) look(i int, ended <-chan struct{}) [][]api.Pair {
	v := r.view(i)
	var seen [][]api.Pair
	for over := false; !over; {
		// Asked ahead of the picture: so the last one is taken when all have ended.
		over = isClosed(ended)
		if pairs, ok := r.picture(v); ok {
			seen = append(seen, pairs)
		}
	}
	return seen
}

// picture is all that is there, as a handle tells it that is let go again; false, if there was an error.
func (r *free) picture(v *arena.View) ([]api.Pair, bool) {
	taken := r.tell(v, api.Op{Kind: api.Snapshot})
	if taken.Errno != api.OK {
		return nil, false
	}
	all := r.tell(v, api.Op{Kind: api.Range, Handle: taken.Handle, Lo: 0, Hi: math.MaxUint64})
	r.tell(v, api.Op{Kind: api.Release, Handle: taken.Handle})
	return all.Pairs, all.Errno == api.OK
}
