package order

import (
	"math"

	"shutter/api"
	"shutter/arena"
)

// Way is what a Seek looks for.
type Way uint8

// Ways.
const (
	After Way = 1 + iota
	Before
	First
	Last
)

// Seek is a proc that finds the key beside another one.
type Seek struct {
	search
	node    uint64 // the one that is told,
	nodeKey uint64 // and its key
	pair    api.Pair
	known   bool
}

// NewSeek is one that has not begun.
func NewSeek(t api.Tree, way Way, key uint64) *Seek {
	p := &Seek{search: search{tree: t, key: key}}
	switch {
	case way == After && key < math.MaxUint64:
		p.key++
		p.arrived = p.tellAt
	case way == First:
		p.key = 0
		p.arrived = p.tellAt
	case way == Before:
		p.arrived = p.tellPassed
	case way == Last:
		p.toEnd = true
		p.arrived = p.tellPassed
	default:
		return p
	}
	p.begin()
	return p
}

// Step does it.
func (p *Seek) Step(v *arena.View) bool {
	return p == nil || p.step(v)
}

// tellAt goes on with the node ahead of which the search stands.
func (p *Seek) tellAt() {
	p.tellOf(p.at, p.lying)
}

// tellPassed goes on with the node that was passed last.
func (p *Seek) tellPassed() {
	p.tellOf(p.passed, p.passedKey)
}

// tellOf goes on with the value of a node, if there is one.
func (p *Seek) tellOf(node, key uint64) {
	if node == 0 {
		p.end()
		return
	}
	p.node, p.nodeKey = node, key
	p.next = p.readValue
}

func (p *Seek) readValue(v *arena.View) {
	p.pair = api.Pair{Key: p.nodeKey, Value: v.Load(p.node + valueAt)}
	p.known = true
	p.end()
}

// Pair is what it found.
func (p *Seek) Pair() (api.Pair, bool) {
	if p == nil {
		return api.Pair{}, false
	}
	return p.pair, p.known
}

// Errno is ErrMemory, if there was no room to take a deleted node out.
func (p *Seek) Errno() api.Errno {
	if p == nil {
		return api.ErrNil
	}
	return p.errno
}
