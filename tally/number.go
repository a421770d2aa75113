package tally

import "sync/atomic"

// wordBits is how many flags a word holds.
const wordBits = 64

// greatest is a number that takes what is above it.
type greatest struct {
	now atomic.Uint64
}

// offer tells whether a number was taken.
func (g *greatest) offer(n uint64) bool {
	for {
		now := g.now.Load()
		if n <= now {
			return false
		}
		if g.now.CompareAndSwap(now, n) {
			return true
		}
	}
}

func (g *greatest) load() uint64 {
	return g.now.Load()
}

// flags are bits that are set one by one.
type flags struct {
	words []atomic.Uint64
}

func newFlags(bits int) *flags {
	return &flags{words: make([]atomic.Uint64, (bits+wordBits-1)/wordBits)}
}

// set tells whether nobody had set the bit ahead.
func (f *flags) set(bit int) bool {
	mask := uint64(1) << (bit % wordBits)
	return f.words[bit/wordBits].Or(mask)&mask == 0
}

// cell is something that is put in its place once.
type cell[T any] struct {
	taken atomic.Pointer[T]
}

// offer is what the cell holds behind it: the first thing that anybody offered.
func (c *cell[T]) offer(thing T) T {
	c.taken.CompareAndSwap(nil, &thing)
	return c.load()
}

// load is what the cell holds: nothing, if nobody has offered anything.
func (c *cell[T]) load() T {
	if taken := c.taken.Load(); taken != nil {
		return *taken
	}
	var none T
	return none
}

// owned is a list, and the number of the goroutine whose it is.
type owned struct {
	from int
	list []uint64
}
