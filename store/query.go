package store

import (
	"shutter/api"
	"shutter/arena"
	"shutter/handle"
	"shutter/step"
	"shutter/walk"
)

// walker is a walk through the trie as it was at a stamp.
type walker interface {
	step.Proc
	Pairs() []api.Pair
}

// query asks whether a handle holds, goes through the picture that it stands for, and asks again.
type query struct {
	slots  api.Slots
	handle uint64
	walkAt func(stamp uint64) walker // nil, of a walk that makes no access
	next   func(v *arena.View) bool  // takes the next step
	open   *handle.Open
	walk   walker
	close  *handle.Close
	errno  api.Errno
}

// queryJob is what does one; tell makes its answer of what was gathered.
func (s *Store) queryJob(op api.Op, walkAt func(stamp uint64) walker, tell func(l []api.Pair) api.Answer) job {
	q := &query{slots: s.slots, handle: op.Handle, walkAt: walkAt}
	q.open = handle.NewOpen(q.slots, q.handle)
	q.next = q.ask
	return job{q, func() api.Answer {
		if q.errno != api.OK {
			return api.Answer{Errno: q.errno}
		}
		return tell(q.gathered())
	}}
}

// Step does it.
func (q *query) Step(v *arena.View) bool {
	return q.next(v)
}

func (q *query) ask(v *arena.View) bool {
	if !q.open.Step(v) {
		return false
	}
	if q.errno = q.open.Errno(); q.errno != api.OK {
		return true
	}
	stamp := q.open.Stamp()
	q.close = handle.NewClose(q.slots, q.handle, stamp)
	q.next = q.askAgain
	if q.walk = q.walkAt(stamp); q.walk != nil {
		q.next = q.look
	}
	return false
}

func (q *query) look(v *arena.View) bool {
	if q.walk.Step(v) {
		q.next = q.askAgain
	}
	return false
}

// askAgain tells whether the handle has held all the time: if not, versions may be missing that the walk would have come to.
func (q *query) askAgain(v *arena.View) bool {
	if !q.close.Step(v) {
		return false
	}
	q.errno = q.close.Errno()
	return true
}

func (q *query) gathered() []api.Pair {
	if q.walk == nil {
		return nil
	}
	return q.walk.Pairs()
}

func tellPairs(l []api.Pair) api.Answer {
	return api.Answer{Pairs: l}
}

func tellCount(l []api.Pair) api.Answer {
	return api.Answer{Count: uint64(len(l))}
}

func (s *Store) multiGet(op api.Op) job {
	if len(op.Keys) > s.multi {
		return refusal(api.ErrLong)
	}
	return s.queryJob(op, func(stamp uint64) walker {
		if len(op.Keys) == 0 {
			return nil
		}
		return walk.NewGet(s.tree, stamp, op.Keys)
	}, tellPairs)
}

func (s *Store) pairsOfRange(op api.Op) job {
	return s.queryJob(op, s.rangeOf(op), tellPairs)
}

func (s *Store) countOfRange(op api.Op) job {
	return s.queryJob(op, s.rangeOf(op), tellCount)
}

// rangeOf is the walk of a Range, or a Count.
func (s *Store) rangeOf(op api.Op) func(stamp uint64) walker {
	return func(stamp uint64) walker {
		if op.Lo > op.Hi {
			return nil
		}
		return walk.NewRange(s.tree, stamp, op.Lo, op.Hi)
	}
}
