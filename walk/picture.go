package walk

import (
	"slices"

	"shutter/api"
	"shutter/arena"
	"shutter/vcas"
)

// chore does one step of something that is still to be gone through; true: that is at its end.
type chore func(v *arena.View) bool

// picture is a trie as it was at a stamp, and how far a proc is that goes through it; both procs have one inside them.
type picture struct {
	camera, stamp uint64
	left          []chore // what is still to be gone through; the last one is the first to go on
	found         []api.Pair
}

// done tells whether all was gone through. One that has nothing to go through is done at first; it has nothing to tell either.
func (p *picture) done() bool {
	return len(p.left) == 0
}

// step takes the next step; true: it was the last one, or there was none.
func (p *picture) step(v *arena.View) bool {
	if p.done() {
		return true
	}
	last := len(p.left) - 1
	if p.left[last](v) {
		// What it has laid on top of itself stays.
		p.left = slices.Delete(p.left, last, last+1)
	}
	return p.done()
}

// objects lays so many objects on the stack, that are read one behind the other: what is laid there for one is gone through ahead of the next one.
func (p *picture) objects(count int, object func(i int) uint64, visit func(i int, w uint64)) {
	if count == 0 {
		return
	}
	i, at := 0, p.at(object(0))
	p.lay(func(v *arena.View) bool {
		if !at.Step(v) {
			return false
		}
		visit(i, at.Value())
		if i++; i == count {
			return true
		}
		at = p.at(object(i))
		return false
	})
}

func (p *picture) at(object uint64) *vcas.At {
	return vcas.NewAt(p.camera, object, p.stamp)
}

// leaf lays a leaf on the stack; its pair is found, if its key is wanted.
func (p *picture) leaf(addr uint64, wants func(key uint64) bool) {
	p.lay(func(v *arena.View) bool {
		if key := v.Load(addr); wants(key) {
			p.value(key, addr+1)
		}
		return true
	})
}

// value lays the value of a key that was found on the stack.
func (p *picture) value(key, addr uint64) {
	p.lay(func(v *arena.View) bool {
		p.found = append(p.found, api.Pair{Key: key, Value: v.Load(addr)})
		return true
	})
}

func (p *picture) lay(c chore) {
	p.left = append(p.left, c)
}

// told is what was found, when all was gone through.
func (p *picture) told() []api.Pair {
	if !p.done() {
		return nil
	}
	return slices.Clone(p.found)
}
