package order

import (
	"shutter/api"
	"shutter/arena"
)

// Op is a proc that does an operation.
type Op struct {
	search
	value, old uint64

	// What is to be done where the key is not, and where it is.
	other, same func()

	was     api.Answer // how the key is where the search stands
	node    uint64     // the one that was made; 0: none yet
	version uint64     // of its next
	newLink uint64     // what that is to hold,
	made    func()     // and what is to be done when it does

	answer api.Answer
}

// NewOp is one that has not begun.
func NewOp(t api.Tree, op api.Op) *Op {
	p := &Op{search: search{tree: t, key: op.Key}, value: op.Value, old: op.Old}
	p.arrived = p.look
	switch op.Kind {
	case api.Get:
		p.other, p.same = p.tell, p.tell
	case api.Put:
		p.other, p.same = p.insert, p.replace
	case api.Delete:
		p.other, p.same = p.tell, p.mark
	case api.Swap:
		p.other, p.same = p.tell, p.compare
	default:
		p.next = p.refuse
		return p
	}
	p.begin()
	return p
}

// Step does it.
func (p *Op) Step(v *arena.View) bool {
	return p == nil || p.step(v)
}

// refuse ends an operation that is none.
func (p *Op) refuse(*arena.View) {
	p.fail(api.ErrOp)
}

// look goes on where the search stands.
func (p *Op) look() {
	p.was = api.Answer{}
	if p.at == 0 || p.lying != p.key {
		p.other()
		return
	}
	p.next = p.readValue
}

func (p *Op) readValue(v *arena.View) {
	p.was = api.Answer{Found: true, Value: v.Load(p.at + valueAt)}
	p.same()
}

// insert puts the node ahead of the one where the search stands.
func (p *Op) insert() {
	p.withNode(p.link, p.hang)
}

func (p *Op) hang() {
	p.swap(p.object, p.link, linkTo(p.node), p.tell)
}

// replace puts the node behind the one of the same key, and deletes that, both by one link.
func (p *Op) replace() {
	p.withNode(p.behind, p.hangDeleting)
}

func (p *Op) hangDeleting() {
	p.swap(p.at+nextAt, p.behind, linkTo(p.node)+deleted, p.tell)
}

// mark deletes the node.
func (p *Op) mark() {
	p.swap(p.at+nextAt, p.behind, p.behind+deleted, p.tell)
}

// compare goes on, if the key has the awaited value.
func (p *Op) compare() {
	if p.was.Value != p.old {
		p.tell()
		return
	}
	p.was.Done = true
	p.replace()
}

// withNode goes on when there is a node with a link: the one that was made ahead, if there is one.
func (p *Op) withNode(link uint64, made func()) {
	p.newLink, p.made = link, made
	p.next = p.makeVersion
	if p.node != 0 {
		p.next = p.relink
	}
}

func (p *Op) makeVersion(v *arena.View) {
	p.version = v.Alloc([]uint64{p.newLink, firstStamp, 0})
	p.next = p.makeNode
	if p.version == 0 {
		p.fail(api.ErrMemory)
	}
}

func (p *Op) makeNode(v *arena.View) {
	p.node = v.Alloc([]uint64{p.key, p.value, p.version})
	if p.node == 0 {
		p.fail(api.ErrMemory)
		return
	}
	p.made()
}

// relink lets the node have another link. Nobody else has come to it yet: a version of its own would not be seen.
func (p *Op) relink(v *arena.View) {
	v.Store(p.version, p.newLink)
	p.made()
}

// tell ends it: it tells how the key was.
func (p *Op) tell() {
	p.answer = p.was
	p.end()
}

// Answer is what came of it.
func (p *Op) Answer() api.Answer {
	if p == nil {
		return api.Answer{Errno: api.ErrNil}
	}
	if p.errno != api.OK {
		return api.Answer{Errno: p.errno}
	}
	return p.answer
}
