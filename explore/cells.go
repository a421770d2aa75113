package explore

import (
	"shutter/api"
	"shutter/arena"
)

// cells are a memory whose accesses can be taken back, the last one first.
type cells struct {
	held []uint64 // the beginning of all: those behind its end hold 0
	most int      // how many there are
	next int      // the first that was not handed out
}

// cellsOf hold what a memory holds.
func cellsOf(m *arena.Memory) cells {
	c := cells{most: m.Cells(), next: m.Cells() - m.Left()}
	for addr := range uint64(c.next) {
		c.held = append(c.held, m.Peek(addr))
	}
	return c
}

func (c *cells) has(addr uint64) bool {
	return addr < uint64(c.most)
}

func (c *cells) load(addr uint64) uint64 {
	if addr >= uint64(len(c.held)) {
		return 0
	}
	return c.held[addr]
}

// reach lets at least so many cells be kept.
func (c *cells) reach(count int) {
	if more := count - len(c.held); more > 0 {
		c.held = append(c.held, make([]uint64, more)...)
	}
}

// would is an access that is asked for, with what it would tell now.
func (c *cells) would(a api.Access) api.Access {
	switch a.Kind {
	case api.Load, api.Add:
		a.Got = c.load(a.Addr)
	case api.Cas:
		a.Ok = c.has(a.Addr) && c.load(a.Addr) == a.A
	case api.Alloc:
		if n := len(a.Values); n > 0 && n <= c.most-c.next {
			a.Addr = uint64(c.next)
		}
	}
	return a
}

// do makes an access of which would has told what it tells: what the cell held by then.
func (c *cells) do(a api.Access) uint64 {
	was := c.load(a.Addr)
	switch {
	case a.Kind == api.Alloc && a.Addr != 0:
		c.next += len(a.Values)
		c.reach(c.next)
		copy(c.held[a.Addr:], a.Values)
	case a.Kind == api.Store:
		c.set(a.Addr, a.A)
	case a.Kind == api.Add:
		c.set(a.Addr, was+a.A)
	case a.Kind == api.Cas && a.Ok:
		c.set(a.Addr, a.B)
	}
	return was
}

func (c *cells) set(addr, value uint64) {
	if c.has(addr) {
		c.reach(int(addr) + 1)
		c.held[addr] = value
	}
}

// undo takes an access back, ahead of which the cell held what is handed in.
func (c *cells) undo(a api.Access, was uint64) {
	switch {
	case a.Kind == api.Alloc && a.Addr != 0:
		c.next -= len(a.Values)
		clear(c.held[c.next : c.next+len(a.Values)])
	case writes(a):
		c.set(a.Addr, was)
	}
}
