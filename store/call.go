package store

import (
	"shutter/announce"
	"shutter/api"
	"shutter/arena"
	"shutter/cut"
	"shutter/step"
	"shutter/trie"
)

// job is a proc that does an operation, and how to tell, when it is done, what came of it.
type job struct {
	step.Proc
	answer func() api.Answer
}

// jobTable has, for each kind of operations, at its number, what makes a job of one; nil, where a number is no kind's.
type jobTable [api.Collect + 1]func(s *Store, op api.Op) job

func jobs() jobTable {
	return jobTable{
		api.Get: func(s *Store, op api.Op) job {
			p := trie.NewFind(s.tree, op.Key)
			return job{p, p.Answer}
		},
		api.Put: func(s *Store, op api.Op) job {
			p := trie.NewPut(s.tree, op.Key, op.Value)
			return job{p, p.Answer}
		},
		api.Delete: func(s *Store, op api.Op) job {
			p := trie.NewRemove(s.tree, op.Key)
			return job{p, p.Answer}
		},
		api.Swap: func(s *Store, op api.Op) job {
			p := trie.NewSwap(s.tree, op.Key, op.Old, op.Value)
			return job{p, p.Answer}
		},
		api.Snapshot: func(s *Store, _ api.Op) job {
			p := announce.NewSnapshot(s.slots)
			return job{p, func() api.Answer { return api.Answer{Errno: p.Errno(), Handle: p.Handle()} }}
		},
		api.Release: func(s *Store, op api.Op) job {
			p := announce.NewRelease(s.slots, op.Handle)
			return job{p, func() api.Answer { return api.Answer{Errno: p.Errno()} }}
		},
		api.MultiGet: (*Store).multiGet,
		api.Range:    (*Store).pairsOfRange,
		api.Count:    (*Store).countOfRange,
		api.Collect: func(s *Store, _ api.Op) job {
			p := cut.NewCollect(s.tree, s.slots)
			return job{p, func() api.Answer { return api.Answer{Count: p.Count()} }}
		},
	}
}

// jobOf is what does an operation.
func (s *Store) jobOf(op api.Op) job {
	table := jobs()
	if int(op.Kind) >= len(table) || table[op.Kind] == nil {
		return refusal(api.ErrOp)
	}
	return table[op.Kind](s, op)
}

// refusal tells an error, by a step without an access.
func refusal(errno api.Errno) job {
	return job{step.NewRow(nil), func() api.Answer { return api.Answer{Errno: errno} }}
}

// Call is a proc that does an operation.
type Call struct {
	store   *Store
	op      api.Op
	resolve func(op api.Op) api.Op   // what the operation is when it begins; nil: what it is now
	next    func(v *arena.View) bool // takes the next step; nil: it is done
	answer  func() api.Answer        // of the job that has begun
	told    api.Answer               // when it is done
}

// Call is one that has not begun.
func (s *Store) Call(op api.Op) *Call {
	if s == nil {
		return nil
	}
	op.Keys = copyOf(op.Keys)
	p := &Call{store: s, op: op}
	p.next = p.begin
	return p
}

// copyOf has nothing in common with a list, not even an empty place in it.
func copyOf[T any](l []T) []T {
	return append([]T(nil), l...)
}

// begin is the first step: not ahead of it is known what the operation's handle is.
func (p *Call) begin(v *arena.View) bool {
	if p.resolve != nil {
		p.op = p.resolve(p.op)
	}
	j := p.store.jobOf(p.op)
	p.next, p.answer = j.Step, j.answer
	return p.next(v)
}

// Step does it.
func (p *Call) Step(v *arena.View) bool {
	if p == nil || p.next == nil {
		return true
	}
	if !p.next(v) {
		return false
	}
	p.told = p.answer()
	p.next, p.answer = nil, nil
	return true
}

// Answer is what came of it.
func (p *Call) Answer() api.Answer {
	if p == nil {
		return api.Answer{Errno: api.ErrNil}
	}
	a := p.told
	a.Pairs = copyOf(a.Pairs)
	return a
}
