package live

import (
	"cmp"
	"slices"
	"sync/atomic"

	"shutter/api"
	"shutter/crew"
	"shutter/store"
)

// free is goroutines that do operations on one store.
type free struct {
	store   *store.Store
	threads []*thread
	tickets atomic.Int64      // how many were taken
	told    [][]atomic.Uint64 // of each thread's calls the handle that it told: 0, if that was none, or it has not returned
}

// newFree is a run that nobody has begun.
func newFree(c api.Config, threads [][]api.Op) (*free, api.Errno) {
	empty, errno := store.NewLive(c)
	if errno != api.OK {
		return nil, errno
	}
	if tooLong(threads) {
		return nil, api.ErrLong
	}
	r := &free{store: empty}
	for i, ops := range threads {
		r.threads = append(r.threads, newThread(r, i, ops))
		r.told = append(r.told, make([]atomic.Uint64, len(ops)))
	}
	return r, api.OK
}

func tooLong(threads [][]api.Op) bool {
	for _, ops := range threads {
		if len(ops) > api.MaxCalls {
			return true
		}
	}
	return len(threads) > api.MaxFree
}

// ticket is the next number.
func (r *free) ticket() int {
	return int(r.tickets.Add(1) - 1)
}

// resolve is an operation, in lists of its own, with its handle in the place of a Ref.
func (r *free) resolve(op api.Op) api.Op {
	if op.Ref.Set {
		op.Handle = r.handleOf(op.Ref)
	}
	op.Ref = api.Ref{}
	op.Keys = append([]uint64(nil), op.Keys...)
	return op
}

// handleOf is the handle that a call has told; 0, if there is no such call, or it has told none.
func (r *free) handleOf(ref api.Ref) uint64 {
	if ref.Thread < 0 || ref.Thread >= len(r.told) {
		return 0
	}
	told := r.told[ref.Thread]
	if ref.Index < 0 || ref.Index >= len(told) {
		return 0
	}
	return told[ref.Index].Load()
}

// doThreads lets all threads do their operations.
func (r *free) doThreads() {
	crew.Together(len(r.threads), func(i int) {
		r.threads[i].doAll()
	})
}

// whileOthers lets all threads do their operations, while so many goroutines more do something else till they are told that all threads have ended.
func (r *free) whileOthers(count int, work func(i int, ended <-chan struct{})) {
	ended := make(chan struct{})
	others := crew.Begin(count, func(i int) {
		work(i, ended)
	})
	r.doThreads()
	close(ended)
	others.Wait()
}

// dids are what the threads were told, by their first tickets.
func (r *free) dids() []api.Did {
	var l []api.Did
	for _, t := range r.threads {
		l = append(l, t.dids...)
	}
	slices.SortFunc(l, func(a, b api.Did) int {
		return cmp.Compare(a.Span.From, b.Span.From)
	})
	return l
}
