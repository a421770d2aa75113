package order

import (
	"slices"

	"shutter/api"
	"shutter/arena"
	"shutter/vcas"
)

// past goes along the list as it was at a stamp; procs that ask for that have it inside them.
type past struct {
	tree  api.Tree
	stamp uint64

	node   uint64 // the one that was come to,
	behind uint64 // and its link
	object *vcas.At

	next func(v *arena.View) // does the next step; nil: there is none
	met  func(key uint64)    // what is to be done with the key of a node that was there
}

// step takes the next step; true: it was the last one, or there was none.
func (p *past) step(v *arena.View) bool {
	if p.next != nil {
		p.next(v)
	}
	return p.next == nil
}

// begin goes along from the head on; met is told of each key.
func (p *past) begin(met func(key uint64)) {
	p.met = met
	p.readFrom(p.tree.Root, p.readHead)
}

// readFrom goes on with reading an object as it was.
func (p *past) readFrom(object uint64, next func(v *arena.View)) {
	p.object = vcas.NewAt(p.tree.Camera, object, p.stamp)
	p.next = next
}

func (p *past) readHead(v *arena.View) {
	if p.object.Step(v) {
		p.follow(p.object.Value())
	}
}

// follow goes on with the node to which a link leads.
func (p *past) follow(link uint64) {
	p.node = nodeOf(link)
	if p.node == 0 {
		p.end()
		return
	}
	p.readFrom(p.node+nextAt, p.readNext)
}

// readNext reads the link of the node that was come to, as it was; a node that was deleted is passed over.
func (p *past) readNext(v *arena.View) {
	if !p.object.Step(v) {
		return
	}
	p.behind = p.object.Value()
	if isDeleted(p.behind) {
		p.follow(p.behind - deleted)
		return
	}
	p.next = p.readKey
}

func (p *past) readKey(v *arena.View) {
	p.met(v.Load(p.node + keyAt))
}

// pass goes on behind the node that was come to.
func (p *past) pass() {
	p.follow(p.behind)
}

func (p *past) end() {
	p.next = nil
}

// over tells whether nothing is left to be done.
func (p *past) over() bool {
	return p.next == nil
}

// Rows is a proc that gathers keys from one on, as they were at a stamp.
type Rows struct {
	past
	from  uint64
	most  int
	key   uint64 // the one whose value is to be read
	pairs []api.Pair
}

// NewRows is one that has not begun.
func NewRows(t api.Tree, stamp, from uint64, most int) *Rows {
	p := &Rows{past: past{tree: t, stamp: stamp}, from: from, most: most}
	if most > 0 {
		p.begin(p.choose)
	}
	return p
}

// choose goes on with the value of a key that is not below the first one.
func (p *Rows) choose(key uint64) {
	if key < p.from {
		p.pass()
		return
	}
	p.key = key
	p.next = p.readValue
}

func (p *Rows) readValue(v *arena.View) {
	p.pairs = append(p.pairs, api.Pair{Key: p.key, Value: v.Load(p.node + valueAt)})
	if len(p.pairs) == p.most {
		p.end()
		return
	}
	p.pass()
}

// Step does it.
func (p *Rows) Step(v *arena.View) bool {
	return p == nil || p.step(v)
}

// Pairs are they.
func (p *Rows) Pairs() []api.Pair {
	if p == nil || !p.over() {
		return nil
	}
	return slices.Clone(p.pairs)
}

// Rank is a proc that counts the keys below one, as they were at a stamp.
type Rank struct {
	past
	key   uint64
	count int
}

// NewRank is one that has not begun.
func NewRank(t api.Tree, stamp, key uint64) *Rank {
	p := &Rank{past: past{tree: t, stamp: stamp}, key: key}
	p.begin(p.countKey)
	return p
}

// countKey counts a key that is below, and goes on behind it.
func (p *Rank) countKey(key uint64) {
	if key >= p.key {
		p.end()
		return
	}
	p.count++
	p.pass()
}

// Step does it.
func (p *Rank) Step(v *arena.View) bool {
	return p == nil || p.step(v)
}

// Count is how many there are.
func (p *Rank) Count() int {
	if p == nil || !p.over() {
		return 0
	}
	return p.count
}
