package live

import (
	"shutter/api"
	"shutter/arena"
	"shutter/store"
)

// pending is the last ticket of a call that has not returned.
const pending = -1

// endless is how many steps a thread may still take that nobody stops.
const endless = -1

// thread does operations, in a goroutine of its own.
type thread struct {
	run    *free
	number int
	view   *arena.View
	ops    []api.Op
	left   int // how many steps it may still take
	dids   []api.Did
}

func newThread(r *free, number int, ops []api.Op) *thread {
	return &thread{run: r, number: number, view: r.store.Memory().View(number), ops: ops, left: endless}
}

func (t *thread) doAll() {
	for index := range t.ops {
		t.do(index)
	}
}

// do does a call; one that cannot take its first step any more does not begin.
func (t *thread) do(index int) {
	if t.left == 0 {
		return
	}
	span := api.Span{Thread: t.number, Index: index, From: t.run.ticket(), To: pending}
	// Behind the ticket: whoever returned ahead of it has told its handle by now.
	op := t.run.resolve(t.ops[index])
	call := t.run.store.Call(op)
	if t.finish(call) {
		// Ahead of the ticket, for the same reason.
		t.run.told[t.number][index].Store(call.Answer().Handle)
		span.To = t.run.ticket()
	}
	t.dids = append(t.dids, api.Did{Span: span, Op: op, Answer: call.Answer()})
}

// finish lets a call take its steps, as long as the thread may take any, and tells whether it has returned.
func (t *thread) finish(call *store.Call) bool {
	for t.left != 0 {
		if t.left > 0 {
			t.left--
		}
		if call.Step(t.view) {
			return true
		}
	}
	return false
}
