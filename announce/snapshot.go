package announce

import (
	"shutter/api"
	"shutter/arena"
	"shutter/camera"
	"shutter/word"
)

// What a Snapshot does next.
const (
	snapshotRefuse place = iota
	snapshotLook
	snapshotClaim
	snapshotNow
	snapshotEarly
	snapshotTake
	snapshotExact
	snapshotGiveUp
	snapshotEnd
)

// snapshotTable has each step of a Snapshot at its number.
type snapshotTable [snapshotEnd]func(p *Snapshot, v *arena.View)

func snapshotSteps() snapshotTable {
	return snapshotTable{
		snapshotRefuse: (*Snapshot).refuse,
		snapshotLook:   (*Snapshot).look,
		snapshotClaim:  (*Snapshot).claim,
		snapshotNow:    (*Snapshot).ask,
		snapshotEarly:  (*Snapshot).early,
		snapshotTake:   (*Snapshot).shoot,
		snapshotExact:  (*Snapshot).exact,
		snapshotGiveUp: (*Snapshot).giveUp,
	}
}

// Snapshot is a proc that takes a slot, says what it needs, and takes a picture.
type Snapshot struct {
	slots  api.Slots
	next   place
	slot   int    // the one that it looks at, or has taken
	seen   uint64 // the word of that when it was free
	gen    uint64
	now    *camera.Now
	take   *camera.Take
	handle uint64
	stamp  uint64
	errno  api.Errno
}

// NewSnapshot is one that has not begun.
func NewSnapshot(s api.Slots) *Snapshot {
	p := &Snapshot{slots: bounded(s), next: snapshotLook}
	p.now = camera.NewNow(s.Camera)
	p.take = camera.NewTake(s.Camera, s.Most)
	if p.slots.Count == 0 {
		p.next = snapshotRefuse
	}
	return p
}

// Step does it.
func (p *Snapshot) Step(v *arena.View) bool {
	if p == nil || p.next == snapshotEnd {
		return true
	}
	snapshotSteps()[p.next](p, v)
	return p.next == snapshotEnd
}

func (p *Snapshot) end(errno api.Errno) {
	p.errno = errno
	p.next = snapshotEnd
}

// refuse is the step of one that has no slot to look at.
func (p *Snapshot) refuse(_ *arena.View) {
	p.end(api.ErrSlot)
}

func (p *Snapshot) look(v *arena.View) {
	p.seen = v.Load(cellOf(p.slots, p.slot))
	s := word.Unpack(p.seen)
	p.gen = s.Gen
	// The last generation stays free for good: a Release of it would lead to one that is none.
	if says(s, api.Free, p.gen) && p.gen < api.MaxGen-1 {
		p.next = snapshotClaim
		return
	}
	p.goOn()
}

// goOn goes on with the next slot.
func (p *Snapshot) goOn() {
	p.slot++
	p.next = snapshotLook
	if p.slot == p.slots.Count {
		p.end(api.ErrSlot)
	}
}

func (p *Snapshot) claim(v *arena.View) {
	if v.Cas(cellOf(p.slots, p.slot), p.seen, wordOf(api.Slot{Kind: api.Claimed, Gen: p.gen})) {
		p.next = snapshotNow
		return
	}
	p.goOn()
}

func (p *Snapshot) ask(v *arena.View) {
	if p.now.Step(v) {
		p.next = snapshotEarly
	}
}

// say lets the slot that it has taken say something else.
func (p *Snapshot) say(v *arena.View, kind api.SlotKind, stamp uint64) {
	v.Store(cellOf(p.slots, p.slot), wordOf(api.Slot{Kind: kind, Gen: p.gen, Stamp: stamp}))
}

// early says from which stamp on versions may be needed, ahead of the picture: a scan that comes in between would not know which one it has.
func (p *Snapshot) early(v *arena.View) {
	p.say(v, api.Early, p.now.Stamp())
	p.next = snapshotTake
}

func (p *Snapshot) shoot(v *arena.View) {
	if !p.take.Step(v) {
		return
	}
	p.next = snapshotExact
	if p.take.Errno() != api.OK {
		p.next = snapshotGiveUp
	}
}

func (p *Snapshot) exact(v *arena.View) {
	p.say(v, api.Exact, p.take.Stamp())
	p.stamp = p.take.Stamp()
	p.handle, _ = word.Handle(p.slot, p.gen)
	p.end(api.OK)
}

func (p *Snapshot) giveUp(v *arena.View) {
	p.say(v, api.Free, 0)
	p.end(p.take.Errno())
}

// Handle is the slot's.
func (p *Snapshot) Handle() uint64 {
	if p == nil {
		return 0
	}
	return p.handle
}

// Stamp is the picture's.
func (p *Snapshot) Stamp() uint64 {
	if p == nil {
		return 0
	}
	return p.stamp
}

// Errno is ErrSlot, or ErrStamp.
func (p *Snapshot) Errno() api.Errno {
	if p == nil {
		return api.ErrNil
	}
	return p.errno
}
