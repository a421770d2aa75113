package step

import (
	"slices"

	"shutter/arena"
)

// Load is a proc that loads a cell.
type Load struct {
	addr  uint64
	value uint64
	done  bool
}

// NewLoad is one that has not begun.
func NewLoad(addr uint64) *Load {
	return &Load{addr: addr}
}

// Step does it.
func (p *Load) Step(v *arena.View) bool {
	if p == nil || p.done {
		return true
	}
	p.value = v.Load(p.addr)
	p.done = true
	return true
}

// Value is what was loaded.
func (p *Load) Value() uint64 {
	if p == nil {
		return 0
	}
	return p.value
}

// Row does procs, one behind the other.
type Row struct {
	procs []Proc
	next  int // the first one that is not done
}

// NewRow is one that has not begun.
func NewRow(l []Proc) *Row {
	return &Row{procs: slices.Clone(l)}
}

// Step does a step of the one whose turn it is.
func (p *Row) Step(v *arena.View) bool {
	if p == nil || p.next == len(p.procs) {
		return true
	}
	if stepOf(p.procs[p.next], v) {
		p.next++
	}
	return p.next == len(p.procs)
}
