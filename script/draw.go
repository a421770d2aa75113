package script

import (
	"math"

	"shutter/api"
	"shutter/mix"
	"shutter/store"
)

const (
	drawStep   = 0x9e3779b97f4a7c15 // between the numbers that are mixed
	drawKeys   = 4                  // how many unlike keys are drawn, and values
	drawValues = 4
	drawMulti  = 3 // keys of a MultiGet that is drawn, at most
)

// drawing draws a script.
type drawing struct {
	below   func(n uint64) uint64 // the next number, below n
	config  api.Config
	threads int
	calls   int
}

// numbersOf are those that a seed stands for, one behind the other.
func numbersOf(seed uint64) func(n uint64) uint64 {
	at := seed
	return func(n uint64) uint64 {
		at += drawStep
		return mix.Mix(at) % n
	}
}

// Draw is a script that a seed stands for: so many threads, calls of each, and picks.
func Draw(seed uint64, c api.Config, threads, calls, picks int) (api.Script, api.Errno) {
	if _, errno := store.New(c); errno != api.OK {
		return api.Script{}, errno
	}
	if threads < 1 || threads > api.MaxThreads || calls < 0 || calls > api.MaxDraw || picks < 0 || picks > api.MaxPicks {
		return api.Script{}, api.ErrRange
	}
	d := &drawing{numbersOf(seed), c, threads, calls}
	s := api.Script{Config: c, Threads: make([][]api.Op, threads)}
	for i := range s.Threads {
		for range calls {
			s.Threads[i] = append(s.Threads[i], d.op())
		}
	}
	for range picks {
		s.Picks = append(s.Picks, d.thread())
	}
	return s, api.OK
}

func (d *drawing) op() api.Op {
	o := api.Op{Kind: 1 + api.OpKind(d.below(uint64(api.Collect)))}
	switch o.Kind {
	case api.Get, api.Delete:
		o.Key = d.key()
	case api.Put:
		o.Key = d.key()
		o.Value = d.value()
	case api.Swap:
		o.Key = d.key()
		o.Old = d.value()
		o.Value = d.value()
	case api.Release:
		o.Ref = d.ref()
	case api.MultiGet:
		o.Ref = d.ref()
		o.Keys = d.keys()
	case api.Range, api.Count:
		o.Ref = d.ref()
		o.Hi = math.MaxUint64
	}
	return o
}

func (d *drawing) thread() int {
	return int(d.below(uint64(d.threads)))
}

// key is one of few, which lie near one another in the trie.
func (d *drawing) key() uint64 {
	return mix.Back(d.below(drawKeys))
}

func (d *drawing) value() uint64 {
	return d.below(drawValues)
}

func (d *drawing) ref() api.Ref {
	thread := d.thread()
	return api.Ref{Set: true, Thread: thread, Index: int(d.below(uint64(d.calls)))}
}

func (d *drawing) keys() []uint64 {
	var l []uint64
	for range d.below(uint64(min(d.config.Multi, drawMulti) + 1)) {
		l = append(l, d.key())
	}
	return l
}
