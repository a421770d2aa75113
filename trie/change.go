package trie

import (
	"shutter/api"
	"shutter/arena"
	"shutter/mix"
	"shutter/node"
	"shutter/vcas"
)

// change is a way at whose end another word is put in the place of the one that lies there.
type change struct {
	way
	value uint64     // of the leaf that it makes
	leaf  *node.Leaf // made once, and kept till it is used
	then  func()     // what is to be done when the leaf is made
	fork  *node.Fork
	cas   *vcas.Cas
}

// hangLeaf puts the leaf where the way ends.
func (c *change) hangLeaf() {
	c.withLeaf(c.swapLeaf)
}

// hangBoth puts branches there, in which the leaf that lies there and the new one part.
func (c *change) hangBoth() {
	c.withLeaf(c.part)
}

// takeAway puts nothing there.
func (c *change) takeAway() {
	c.swap(0)
}

// withLeaf goes on when there is a leaf: at once, if one was made ahead.
func (c *change) withLeaf(then func()) {
	if c.leaf != nil {
		then()
		return
	}
	c.leaf = node.NewLeaf(c.key, c.value)
	c.then = then
	c.next = c.makeLeaf
}

func (c *change) makeLeaf(v *arena.View) {
	if !c.leaf.Step(v) {
		return
	}
	if errno := c.leaf.Errno(); errno != api.OK {
		c.fail(errno)
		return
	}
	c.then()
}

func (c *change) swapLeaf() {
	c.swap(c.leaf.Word())
}

// part goes on to the branches, if the two keys' ways part; a Fork would tell, too, but by a step more.
func (c *change) part() {
	lying, level := mix.Mix(c.lying), c.level+1
	if !partFrom(lying, c.mixed, level) {
		c.fail(api.ErrKnown)
		return
	}
	c.fork = node.NewFork(c.word, lying, c.leaf.Word(), c.mixed, level)
	c.next = c.makeFork
}

// partFrom tells whether two mixed keys have unlike digits at some level from one on.
func partFrom(a, b uint64, level int) bool {
	for ; level < api.Levels; level++ {
		if mix.Digit(a, level) != mix.Digit(b, level) {
			return true
		}
	}
	return false
}

func (c *change) makeFork(v *arena.View) {
	if !c.fork.Step(v) {
		return
	}
	if errno := c.fork.Errno(); errno != api.OK {
		c.fail(errno)
		return
	}
	c.swap(c.fork.Word())
}

// swap goes on to put a word in the place of the one where the way ended.
func (c *change) swap(now uint64) {
	c.cas = vcas.NewCas(c.camera, c.object, c.word, now)
	c.next = c.doSwap
}

func (c *change) doSwap(v *arena.View) {
	if !c.cas.Step(v) {
		return
	}
	if errno := c.cas.Errno(); errno != api.OK {
		c.fail(errno)
		return
	}
	if c.cas.Done() {
		c.tell()
		return
	}
	// Another one was ahead; what it has put there, the key's way leads through.
	c.from(c.object, c.level)
}
