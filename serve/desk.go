package serve

import (
	"sync/atomic"

	"shutter/api"
	"shutter/arena"
	"shutter/crew"
	"shutter/store"
)

// question is an operation that is asked for, with the channel on which its client waits for the answer.
type question struct {
	op     api.Op
	answer chan<- api.Answer
}

// desk is where clients ask, and workers take what is asked.
type desk struct {
	store     *store.Store
	workers   int
	clients   [][]api.Op
	questions chan question
	ended     chan struct{} // closed, when no client has anything to ask any more
	news      chan struct{} // has one, when something was done that a publisher has not looked for; nil without a publisher
	most      int           // how many operations may be asked for
	asked     atomic.Int64  // how many were, and maybe more that may not be
	told      [][]api.Answer
	handles   [][]atomic.Uint64 // of each client's calls the handle that it was told: 0, if that was none, or it was not told yet
}

// newDesk is one at which nobody has asked.
func newDesk(c api.Config, workers int, clients [][]api.Op, most int) (*desk, api.Errno) {
	empty, errno := store.NewLive(c)
	if errno != api.OK {
		return nil, errno
	}
	if !mayWork(workers) {
		return nil, api.ErrRange
	}
	if tooLong(clients) {
		return nil, api.ErrLong
	}
	d := &desk{
		store:     empty,
		workers:   workers,
		clients:   clients,
		questions: make(chan question),
		ended:     make(chan struct{}),
		most:      most,
		told:      make([][]api.Answer, len(clients)),
	}
	for _, ops := range clients {
		d.handles = append(d.handles, make([]atomic.Uint64, len(ops)))
	}
	return d, api.OK
}

func tooLong(clients [][]api.Op) bool {
	for _, ops := range clients {
		if len(ops) > api.MaxCalls {
			return true
		}
	}
	return len(clients) > api.MaxFree
}

// serve lets all clients ask till they have ended; the workers end behind them.
func (d *desk) serve() {
	staff := crew.Begin(d.workers, d.work)
	crew.Together(len(d.clients), d.ask)
	close(d.ended)
	staff.Wait()
}

// work does what is asked, whoever asked, till no client is left.
func (d *desk) work(i int) {
	v := d.store.Memory().View(i)
	for {
		select {
		case q := <-d.questions:
			told := tell(d.store, v, q.op)
			d.ring()
			q.answer <- told
		case <-d.ended:
			return
		}
	}
}

// ring lets a publisher know that something was done, without waiting for it: one that has been told so, and has not looked yet, need not be told again.
func (d *desk) ring() {
	select {
	case d.news <- struct{}{}:
	default:
	}
}

// tell does an operation: what it tells.
func tell(s *store.Store, v *arena.View, op api.Op) api.Answer {
	call := s.Call(op)
	for !call.Step(v) {
	}
	return call.Answer()
}

// ask lets a client ask for its operations, each when it was told what came of the last.
func (d *desk) ask(client int) {
	answer := make(chan api.Answer)
	for index, op := range d.clients[client] {
		if !d.mayAsk() {
			return
		}
		d.questions <- question{op: d.resolve(op), answer: answer}
		told := <-answer
		d.told[client] = append(d.told[client], told)
		d.handles[client][index].Store(told.Handle)
	}
}

// mayAsk takes leave for one operation: who has it asks for sure, so no leave is lost.
func (d *desk) mayAsk() bool {
	return d.asked.Add(1) <= int64(d.most)
}

// resolve is an operation with its handle in the place of a Ref.
func (d *desk) resolve(op api.Op) api.Op {
	if op.Ref.Set {
		op.Handle = d.handleOf(op.Ref)
	}
	return op
}

// handleOf is the handle that a client was told of a call; 0, if there is no such call, or it was told none.
func (d *desk) handleOf(ref api.Ref) uint64 {
	if ref.Thread < 0 || ref.Thread >= len(d.handles) {
		return 0
	}
	handles := d.handles[ref.Thread]
	if ref.Index < 0 || ref.Index >= len(handles) {
		return 0
	}
	return handles[ref.Index].Load()
}
