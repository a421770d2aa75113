package tally

import (
	"shutter/api"
	"shutter/arena"
)

// pairs is a cell for two numbers: a cell of a live memory that holds the address of a record of two. A record is never written again, and none comes back: so who has an address has a whole pair.
type pairs struct {
	memory *arena.Memory
	now    uint64 // the cell that holds the address
}

// newPairs holds 0 and 0, with room for so many pairs behind that.
func newPairs(writes int) (*pairs, api.Errno) {
	const none, first, now = 1, 2, 1 // cells: the address 0, the first pair, the cell itself
	m, errno := arena.New(max(api.MinCells, none+first+now+2*writes), true)
	if errno != api.OK {
		return nil, errno
	}
	v := m.View(-1)
	return &pairs{memory: m, now: v.Alloc([]uint64{v.Alloc([]uint64{0, 0})})}, api.OK
}

// write writes pairs, one behind the other.
func (p *pairs) write(thread int, writes []api.Pair) {
	v := p.memory.View(thread)
	for _, w := range writes {
		v.Store(p.now, v.Alloc([]uint64{w.Key, w.Value}))
	}
}

// read reads so often: what it read.
func (p *pairs) read(thread, each int) []api.Pair {
	v := p.memory.View(thread)
	var l []api.Pair
	for range each {
		at := v.Load(p.now)
		l = append(l, api.Pair{Key: v.Load(at), Value: v.Load(at + 1)})
	}
	return l
}
