package announce

import (
	"shutter/api"
	"shutter/arena"
	"shutter/word"
)

// What a Release does next.
const (
	releaseRefuse place = iota
	releaseLook
	releaseFree
	releaseEnd
)

// releaseTable has each step of a Release at its number.
type releaseTable [releaseEnd]func(p *Release, v *arena.View)

func releaseSteps() releaseTable {
	return releaseTable{
		releaseRefuse: (*Release).refuse,
		releaseLook:   (*Release).look,
		releaseFree:   (*Release).free,
	}
}

// Release is a proc that lets a handle go.
type Release struct {
	cell  uint64 // the slot's
	gen   uint64 // the handle's
	next  place
	seen  uint64 // the slot's word
	errno api.Errno
}

// NewRelease is one that has not begun.
func NewRelease(s api.Slots, handle uint64) *Release {
	slot, gen, errno := word.Unhandle(handle)
	// No handle's slot is MaxSlots or above, so that a Count above it needs no bound.
	if errno != api.OK || slot >= s.Count {
		return &Release{next: releaseRefuse}
	}
	return &Release{cell: cellOf(s, slot), gen: gen, next: releaseLook}
}

// Step does it.
func (p *Release) Step(v *arena.View) bool {
	if p == nil || p.next == releaseEnd {
		return true
	}
	releaseSteps()[p.next](p, v)
	return p.next == releaseEnd
}

func (p *Release) end(errno api.Errno) {
	p.errno = errno
	p.next = releaseEnd
}

// refuse is the step of one whose handle is none of these slots'.
func (p *Release) refuse(_ *arena.View) {
	p.end(api.ErrHandle)
}

func (p *Release) look(v *arena.View) {
	p.seen = v.Load(p.cell)
	p.next = releaseFree
	if !says(word.Unpack(p.seen), api.Exact, p.gen) {
		p.end(api.ErrHandle)
	}
}

func (p *Release) free(v *arena.View) {
	errno := api.OK
	if !v.Cas(p.cell, p.seen, wordOf(api.Slot{Kind: api.Free, Gen: p.gen + 1})) {
		errno = api.ErrHandle
	}
	p.end(errno)
}

// Errno is ErrHandle, if it holds no more.
func (p *Release) Errno() api.Errno {
	if p == nil {
		return api.ErrNil
	}
	return p.errno
}
