package order

import (
	"shutter/api"
	"shutter/arena"
	"shutter/vcas"
)

// search goes along the list as it is now, takes deleted nodes out that it comes by, and stands still ahead of the first node whose key is not below one; procs that change or ask the list of now have it inside them.
type search struct {
	tree  api.Tree
	key   uint64
	toEnd bool // all keys are passed, whatever the key is

	object    uint64 // the one whose link leads to where it stands,
	link      uint64 // and that link
	passed    uint64 // the node whose that is; 0: it is the head
	passedKey uint64
	at        uint64 // the node ahead of which it stands; 0: the list's end
	lying     uint64 // its key,
	behind    uint64 // and its link

	read *vcas.Read
	cas  *vcas.Cas

	next    func(v *arena.View) // does the next step; nil: there is none
	arrived func()              // what is to be done where it stands still
	swapped func()              // what is to be done when a link was swapped

	errno api.Errno
}

// step takes the next step; true: it was the last one, or there was none.
func (s *search) step(v *arena.View) bool {
	if s.next != nil {
		s.next(v)
	}
	return s.next == nil
}

// begin goes along from the head on, at first and whenever another one was ahead.
func (s *search) begin() {
	s.passed, s.passedKey = 0, 0
	s.object = s.tree.Root
	s.readFrom(s.object, s.readHead)
}

// readFrom goes on with reading an object.
func (s *search) readFrom(object uint64, next func(v *arena.View)) {
	s.read = vcas.NewRead(s.tree.Camera, object)
	s.next = next
}

func (s *search) readHead(v *arena.View) {
	if s.read.Step(v) {
		s.follow(s.read.Value())
	}
}

// follow goes on with the node to which a link leads.
func (s *search) follow(link uint64) {
	s.link, s.at = link, nodeOf(link)
	if s.at == 0 {
		s.arrived()
		return
	}
	s.readFrom(s.at+nextAt, s.readNext)
}

// readNext reads the link of the node that was come to.
func (s *search) readNext(v *arena.View) {
	if !s.read.Step(v) {
		return
	}
	s.behind = s.read.Value()
	if isDeleted(s.behind) {
		s.swap(s.object, s.link, s.behind-deleted, s.tookOut)
		return
	}
	s.next = s.readKey
}

// tookOut goes on behind a deleted node.
func (s *search) tookOut() {
	s.follow(s.behind - deleted)
}

// readKey reads the key of the node that was come to, and passes it, if it is below.
func (s *search) readKey(v *arena.View) {
	s.lying = v.Load(s.at + keyAt)
	if !s.toEnd && s.lying >= s.key {
		s.arrived()
		return
	}
	s.passed, s.passedKey = s.at, s.lying
	s.object = s.at + nextAt
	s.follow(s.behind)
}

// swap goes on to put a link in the place of another one.
func (s *search) swap(object, old, now uint64, swapped func()) {
	s.cas = vcas.NewCas(s.tree.Camera, object, old, now)
	s.swapped = swapped
	s.next = s.doSwap
}

func (s *search) doSwap(v *arena.View) {
	if !s.cas.Step(v) {
		return
	}
	switch errno := s.cas.Errno(); {
	case errno != api.OK:
		s.fail(errno)
	case s.cas.Done():
		s.swapped()
	default:
		s.begin()
	}
}

// end is the last that a step does: nothing is left to be done.
func (s *search) end() {
	s.next = nil
}

func (s *search) fail(errno api.Errno) {
	s.errno = errno
	s.end()
}
