package shell

import (
	"strconv"
	"strings"

	"shutter/api"
	"shutter/arena"
	"shutter/script"
	"shutter/store"
)

// loner is the thread of operations that are done as a whole.
const loner = -1

// room is a store with its threads and its plan.
type room struct {
	config  api.Config
	store   *store.Store
	threads [api.MaxThreads]thread
	plan    [api.MaxThreads][]api.Op
}

// thread is the operations that were begun there; none but the last one can be under way.
type thread []*call

// call is an operation that was begun.
type call struct {
	*store.Call
	kind api.OpKind
	view *arena.View
	done bool
}

func newRoom(c api.Config) (*room, api.Errno) {
	s, errno := store.New(c)
	if errno != api.OK {
		return nil, errno
	}
	return &room{config: c, store: s}, api.OK
}

// begin is an operation that a thread begins, without a step.
func (r *room) begin(number int, op api.Op) *call {
	if op.Ref.Set {
		op.Handle = r.handleOf(op.Ref)
	}
	return &call{Call: r.store.Call(op), kind: op.Kind, view: r.store.Memory().View(number)}
}

// handleOf is the handle that an operation of a thread has told; 0, if there is no such one, or it has told none.
func (r *room) handleOf(ref api.Ref) uint64 {
	if ref.Thread < 0 || ref.Thread >= len(r.threads) {
		return 0
	}
	calls := r.threads[ref.Thread]
	if ref.Index < 0 || ref.Index >= len(calls) {
		return 0
	}
	return calls[ref.Index].Answer().Handle
}

// takeStep tells whether it is done by that.
func (c *call) takeStep() bool {
	c.done = c.Step(c.view)
	return c.done
}

func (c *call) takeAllSteps() {
	for !c.takeStep() {
	}
}

// told is what it told, as a text.
func (c *call) told() string {
	return script.PrintAnswer(c.kind, c.Answer())
}

// underWay is the operation that is; nil, if none is.
func (t thread) underWay() *call {
	if len(t) == 0 || t[len(t)-1].done {
		return nil
	}
	return t[len(t)-1]
}

// whole is an operation that is done as a whole.
func (r *room) whole(op api.Op) *call {
	c := r.begin(loner, op)
	c.takeAllSteps()
	return c
}

func (r *room) do(l line) string {
	op, ok := l.op()
	if !ok {
		return noOp
	}
	return r.whole(op).told()
}

func (r *room) start(l line) string {
	t := &r.threads[l.thread]
	if t.underWay() != nil {
		return isBusy
	}
	op, ok := l.op()
	if !ok {
		return noOp
	}
	*t = append(*t, r.begin(int(l.thread), op))
	return tellOK
}

func (r *room) step(l line) string {
	c := r.threads[l.thread].underWay()
	if c == nil {
		return isIdle
	}
	if !c.takeStep() {
		return tellStep
	}
	return tellDone + c.told()
}

func (r *room) finish(l line) string {
	c := r.threads[l.thread].underWay()
	if c == nil {
		return isIdle
	}
	c.takeAllSteps()
	return tellDone + c.told()
}

func (r *room) pending(line) string {
	var l []string
	for i, t := range r.threads {
		if t.underWay() != nil {
			l = append(l, strconv.Itoa(i))
		}
	}
	if len(l) == 0 {
		return tellNone
	}
	return strings.Join(l, blank)
}
