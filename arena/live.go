package arena

import (
	"sync/atomic"

	"shutter/api"
)

// wordBits is how many cells a word of marks tells of.
const wordBits = 64

// liveBank is cells that many goroutines use at one time. It keeps no trace: there is no one order in which they would have to write it.
//
// A record is handed out by one step of next, and gets its values behind that. So that the whole is done as one, whoever comes upon a cell in between waits till the record is filled. Nobody does who has its address from the Alloc: this is for addresses that were guessed.
type liveBank struct {
	cells  []atomic.Uint64
	filled []atomic.Uint64 // a bit for each cell: it was handed out, and its record has its values
	next   atomic.Uint64   // the first cell that was not handed out
}

func newLiveBank(cells int) *liveBank {
	b := &liveBank{
		cells:  make([]atomic.Uint64, cells),
		filled: make([]atomic.Uint64, (cells+wordBits-1)/wordBits),
	}
	b.next.Store(firstCell)
	b.mark(0, firstCell)
	return b
}

// cell is the cell at an address, nil if there is none.
func (b *liveBank) cell(addr uint64) *atomic.Uint64 {
	if addr >= uint64(len(b.cells)) {
		return nil
	}
	for !b.isFilled(addr) && addr < b.next.Load() {
		// The Alloc that was handed this cell is just writing its values.
	}
	return &b.cells[addr]
}

func (b *liveBank) isFilled(addr uint64) bool {
	return b.filled[addr/wordBits].Load()>>(addr%wordBits)&1 == 1
}

// mark tells that the cells from one address to ahead of another are filled, by as few writes as there are words.
func (b *liveBank) mark(from, to uint64) {
	for from < to {
		end := min(to, (from/wordBits+1)*wordBits)
		bits := uint64(1)<<(end-from) - 1
		b.filled[from/wordBits].Or(bits << (from % wordBits))
		from = end
	}
}

func (b *liveBank) load(addr uint64) uint64 {
	c := b.cell(addr)
	if c == nil {
		return 0
	}
	return c.Load()
}

func (b *liveBank) store(addr, value uint64) {
	if c := b.cell(addr); c != nil {
		c.Store(value)
	}
}

func (b *liveBank) cas(addr, old, now uint64) bool {
	c := b.cell(addr)
	return c != nil && c.CompareAndSwap(old, now)
}

func (b *liveBank) add(addr, n uint64) uint64 {
	c := b.cell(addr)
	if c == nil {
		return 0
	}
	return c.Add(n) - n
}

func (b *liveBank) alloc(values []uint64) uint64 {
	first, ok := b.take(uint64(len(values)))
	if !ok {
		return 0
	}
	for i, value := range values {
		b.cells[first+uint64(i)].Store(value)
	}
	b.mark(first, first+uint64(len(values)))
	return first
}

// take hands so many cells out, if there are any asked for and as many are left.
func (b *liveBank) take(count uint64) (uint64, bool) {
	for count > 0 {
		first := b.next.Load()
		if count > uint64(len(b.cells))-first {
			break
		}
		if b.next.CompareAndSwap(first, first+count) {
			return first, true
		}
	}
	return 0, false
}

func (b *liveBank) size() int {
	return len(b.cells)
}

func (b *liveBank) left() int {
	return len(b.cells) - int(b.next.Load())
}

func (b *liveBank) note(api.Access) {}

func (b *liveBank) trace() []api.Access {
	return nil
}

func (b *liveBank) made() int {
	return 0
}

func (b *liveBank) fork() bank {
	other := newLiveBank(len(b.cells))
	next := b.next.Load()
	other.next.Store(next)
	other.mark(0, next)
	for addr := range b.cells {
		other.cells[addr].Store(b.load(uint64(addr)))
	}
	return other
}
