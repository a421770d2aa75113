package node

import (
	"shutter/api"
	"shutter/arena"
	"shutter/mix"
	"shutter/word"
)

// What a Fork does next.
const (
	forkFirst = iota
	forkSecond
	forkBranch
	forkUpper
)

// child is a child's word, with the mixed key by whose digits it is come to.
type child struct {
	word, mixed uint64
}

// Fork is a proc that makes branches, down to where two children part.
type Fork struct {
	outcome
	a, b  child // a is the branch that was made last, once there is one
	top   int   // the level of the uppermost branch
	level int   // that of the branch which is made now: from below upwards
	cells [api.Fan]uint64
	next  int
	word  uint64
}

// NewFork is one that has not begun: two children with their mixed keys, from a level on.
func NewFork(a, ha, b, hb uint64, level int) *Fork {
	return &Fork{a: child{a, ha}, b: child{b, hb}, top: max(level, 0)}
}

// Step does it.
func (p *Fork) Step(v *arena.View) bool {
	if p == nil || p.over {
		return true
	}
	switch p.next {
	case forkFirst:
		return p.begin(v)
	case forkSecond:
		return p.hang(v, p.b, forkBranch)
	case forkUpper:
		return p.hang(v, p.a, forkBranch)
	}
	return p.join(v)
}

// begin finds out where the children part, and hangs the first one there.
func (p *Fork) begin(v *arena.View) bool {
	level, ok := parting(p.a.mixed, p.b.mixed, p.top)
	if !ok {
		return p.end(api.ErrKnown)
	}
	p.level = level
	return p.hang(v, p.a, forkSecond)
}

// hang makes the version of the object that a child lies in, and tells what comes then.
func (p *Fork) hang(v *arena.View, c child, then int) bool {
	version := v.Alloc([]uint64{c.word, firstStamp, 0})
	if version == 0 {
		return p.end(api.ErrMemory)
	}
	p.cells[mix.Digit(c.mixed, p.level)] = version
	p.next = then
	return false
}

// join makes the branch, and goes on with the one above it that it is to lie in, as long as there is one.
func (p *Fork) join(v *arena.View) bool {
	branch := v.Alloc(p.cells[:])
	if branch == 0 {
		return p.end(api.ErrMemory)
	}
	p.a.word, _ = word.Child(api.Branch, branch)
	if p.level == p.top {
		p.word = p.a.word
		return p.end(api.OK)
	}
	p.level--
	p.cells = [api.Fan]uint64{}
	p.next = forkUpper
	return false
}

// parting is the first level from one on at which two mixed keys have unlike digits; false: there is none.
func parting(ha, hb uint64, level int) (int, bool) {
	for ; level < api.Levels; level++ {
		if mix.Digit(ha, level) != mix.Digit(hb, level) {
			return level, true
		}
	}
	return 0, false
}

// Word is the uppermost branch's.
func (p *Fork) Word() uint64 {
	if p == nil {
		return 0
	}
	return p.word
}

// Errno is ErrMemory, if there was no room; ErrKnown, if they never part.
func (p *Fork) Errno() api.Errno {
	if p == nil {
		return api.ErrNil
	}
	return p.failed()
}
