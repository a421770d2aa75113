package announce

import (
	"slices"

	"shutter/api"
	"shutter/arena"
	"shutter/camera"
	"shutter/word"
)

// What a Scan does next.
const (
	scanNow place = iota
	scanLook
	scanEnd
)

// scanTable has each step of a Scan at its number.
type scanTable [scanEnd]func(p *Scan, v *arena.View)

func scanSteps() scanTable {
	return scanTable{
		scanNow:  (*Scan).ask,
		scanLook: (*Scan).look,
	}
}

// Scan is a proc that tells which stamps are needed.
type Scan struct {
	slots api.Slots
	next  place
	now   *camera.Now
	slot  int      // the one that it looks at next
	floor uint64   // the smallest stamp, so far, from which on all may be needed
	exact []uint64 // the stamps, so far, of slots that say just what is needed
}

// NewScan is one that has not begun.
func NewScan(s api.Slots) *Scan {
	return &Scan{slots: bounded(s), now: camera.NewNow(s.Camera)}
}

// Step does it.
func (p *Scan) Step(v *arena.View) bool {
	if p == nil || p.next == scanEnd {
		return true
	}
	scanSteps()[p.next](p, v)
	return p.next == scanEnd
}

func (p *Scan) ask(v *arena.View) {
	if p.now.Step(v) {
		p.floor = p.now.Stamp()
		p.goTo(0)
	}
}

// goTo goes on with a slot, or comes to the end, if there is none.
func (p *Scan) goTo(slot int) {
	p.slot = slot
	p.next = scanLook
	if slot == p.slots.Count {
		p.sum()
		p.next = scanEnd
	}
}

func (p *Scan) look(v *arena.View) {
	s := word.Unpack(v.Load(cellOf(p.slots, p.slot)))
	switch {
	case says(s, api.Early, s.Gen):
		p.floor = min(p.floor, s.Stamp)
	case says(s, api.Exact, s.Gen):
		p.exact = append(p.exact, s.Stamp)
	}
	p.goTo(p.slot + 1)
}

// sum puts the stamps in their order. Which of them are below the floor is not known till all slots were looked at.
func (p *Scan) sum() {
	slices.Sort(p.exact)
	p.exact = slices.Compact(p.exact)
	below, _ := slices.BinarySearch(p.exact, p.floor)
	p.exact = p.exact[:below]
}

// Need are they.
func (p *Scan) Need() api.Need {
	if p == nil || p.next != scanEnd {
		return api.Need{}
	}
	return api.Need{Floor: p.floor, Stamps: slices.Clone(p.exact)}
}
