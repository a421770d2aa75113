package locked

import (
	"sync/atomic"

	"shutter/api"
)

// run is goroutines that do operations on one store.
type run struct {
	store   *Store
	threads []*thread
	tickets atomic.Int64 // how many were taken
}

// thread does operations, in a goroutine of its own.
type thread struct {
	run     *run
	number  int
	ops     []api.Op
	dids    []api.Did
	numbers []int // of each of its dids its number under the lock
}

func newRun(s *Store, threads [][]api.Op) *run {
	r := &run{store: s}
	for i, ops := range threads {
		r.threads = append(r.threads, &thread{run: r, number: i, ops: ops})
	}
	return r
}

// ticket is the next number, from 0 on.
func (r *run) ticket() int {
	return int(r.tickets.Add(1) - 1)
}

func (t *thread) doAll() {
	for index, op := range t.ops {
		op = t.resolve(op)
		span := api.Span{Thread: t.number, Index: index, From: t.run.ticket()}
		told, number := t.run.store.Do(op)
		span.To = t.run.ticket()
		t.dids = append(t.dids, api.Did{Span: span, Op: op, Answer: told})
		t.numbers = append(t.numbers, number)
	}
}

// resolve is an operation, in lists of its own, with its handle in the place of a Ref.
func (t *thread) resolve(op api.Op) api.Op {
	if op.Ref.Set {
		op.Handle = t.handleOf(op.Ref)
	}
	op.Ref = api.Ref{}
	op.Keys = append([]uint64(nil), op.Keys...)
	return op
}

// handleOf is the handle that an earlier call of this thread has told; of any other call 0.
func (t *thread) handleOf(ref api.Ref) uint64 {
	if ref.Thread != t.number || ref.Index < 0 || ref.Index >= len(t.dids) {
		return 0
	}
	return t.dids[ref.Index].Answer.Handle
}

// dids are what the operations told, thread by thread.
func (r *run) dids() []api.Did {
	var l []api.Did
	for _, t := range r.threads {
		l = append(l, t.dids...)
	}
	return l
}

// order is the numbers of the dids, as they were done under the lock.
func (r *run) order() []int {
	var numbers []int
	for _, t := range r.threads {
		numbers = append(numbers, t.numbers...)
	}
	order := make([]int, len(numbers))
	for i, number := range numbers {
		order[number] = i
	}
	return order
}
