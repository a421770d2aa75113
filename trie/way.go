package trie

import (
	"shutter/api"
	"shutter/arena"
	"shutter/mix"
	"shutter/vcas"
	"shutter/word"
)

// way goes down for a key to the object where that ends, and looks at what lies there; all procs of this package have one inside them.
type way struct {
	camera     uint64
	key, mixed uint64

	object uint64 // where it has come to
	level  int    // the object's
	read   *vcas.Read
	word   uint64     // what lies in the object where the way ends,
	leafAt uint64     // its address, if that is a leaf,
	lying  uint64     // and the leaf's key
	ahead  api.Answer // how the key is there

	next func(v *arena.View) // does the next step; nil: there is none

	// What is to be done where the way ends: at nothing, at a leaf of another key, at one of the key.
	nothing, other, same func()

	answer api.Answer
}

// step takes the next step; true: it was the last one, or there was none.
func (w *way) step(v *arena.View) bool {
	if w.next != nil {
		w.next(v)
	}
	return w.next == nil
}

// begin lets the way go down from the root.
func (w *way) begin(t api.Tree, key uint64) {
	w.camera = t.Camera
	w.key, w.mixed = key, mix.Mix(key)
	w.enter(t.Root, 0)
}

// enter goes on in a branch, whose level is given.
func (w *way) enter(branch uint64, level int) {
	w.from(branch+uint64(mix.Digit(w.mixed, level)), level)
}

// from goes down from an object on.
func (w *way) from(object uint64, level int) {
	w.object, w.level = object, level
	w.ahead = api.Answer{}
	w.read = vcas.NewRead(w.camera, object)
	w.next = w.down
}

// down reads the object that was come to.
func (w *way) down(v *arena.View) {
	if !w.read.Step(v) {
		return
	}
	w.word = w.read.Value()
	switch kind, addr := word.Split(w.word); kind {
	case api.Branch:
		w.enter(addr, w.level+1)
	case api.Leaf:
		w.leafAt = addr
		w.next = w.lookKey
	default:
		w.nothing()
	}
}

// lookKey reads the key of the leaf at the end.
func (w *way) lookKey(v *arena.View) {
	w.lying = v.Load(w.leafAt)
	if w.lying != w.key {
		w.other()
		return
	}
	w.next = w.lookValue
}

// lookValue reads its value.
func (w *way) lookValue(v *arena.View) {
	w.ahead = api.Answer{Found: true, Value: v.Load(w.leafAt + 1)}
	w.same()
}

// tell ends it: it tells how the key was.
func (w *way) tell() {
	w.end(w.ahead)
}

// fail ends it with an error.
func (w *way) fail(errno api.Errno) {
	w.end(api.Answer{Errno: errno})
}

func (w *way) end(answer api.Answer) {
	w.answer = answer
	w.next = nil
}
