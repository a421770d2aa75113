package arena

import (
	"slices"

	"shutter/api"
)

// plainBank is cells for one goroutine, with the trace of all accesses.
type plainBank struct {
	cells    []uint64 // the beginning of all: those behind its end hold 0 yet, so that a great memory costs no more than what is used of it
	most     int      // how many cells there are
	next     int      // the first cell that was not handed out
	accesses []api.Access
}

func newPlainBank(cells int) *plainBank {
	return &plainBank{most: cells, next: firstCell}
}

func (b *plainBank) load(addr uint64) uint64 {
	if addr >= uint64(len(b.cells)) {
		return 0
	}
	return b.cells[addr]
}

func (b *plainBank) store(addr, value uint64) {
	if addr >= uint64(b.most) {
		return
	}
	b.reach(int(addr) + 1)
	b.cells[addr] = value
}

func (b *plainBank) cas(addr, old, now uint64) bool {
	if addr >= uint64(b.most) || b.load(addr) != old {
		return false
	}
	b.store(addr, now)
	return true
}

func (b *plainBank) add(addr, n uint64) uint64 {
	got := b.load(addr)
	b.store(addr, got+n)
	return got
}

func (b *plainBank) alloc(values []uint64) uint64 {
	if len(values) == 0 || len(values) > b.left() {
		return 0
	}
	first := b.next
	b.next += len(values)
	b.reach(b.next)
	copy(b.cells[first:b.next], values)
	return uint64(first)
}

// reach lets at least so many cells be kept, as many of them as are new with 0.
func (b *plainBank) reach(count int) {
	if more := count - len(b.cells); more > 0 {
		b.cells = append(b.cells, make([]uint64, more)...)
	}
}

func (b *plainBank) size() int {
	return b.most
}

func (b *plainBank) left() int {
	return b.most - b.next
}

func (b *plainBank) note(a api.Access) {
	// The list is the caller's, who may use it again.
	a.Values = copyOf(a.Values)
	b.accesses = append(b.accesses, a)
}

func (b *plainBank) trace() []api.Access {
	l := slices.Clone(b.accesses)
	for i := range l {
		l[i].Values = copyOf(l[i].Values)
	}
	return l
}

// copyOf has nothing in common with the list, not even an empty place in it.
func copyOf(values []uint64) []uint64 {
	return append([]uint64(nil), values...)
}

func (b *plainBank) made() int {
	return len(b.accesses)
}

func (b *plainBank) fork() bank {
	return &plainBank{cells: slices.Clone(b.cells), most: b.most, next: b.next}
}
