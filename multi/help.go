package multi

import (
	"shutter/api"
	"shutter/arena"
)

// place is how far a frame or a proc is: what it does next.
type place uint8

// What a frame does next. The numbers of each part follow one another in its order.
const (
	frameEnd place = iota

	// To settle a lock.
	settlePlan
	settleCell
	settleAwaited
	settleHeld
	settleAsk
	settleSwap

	// To help a plan: all entries are taken for it, and it is decided,
	helpState
	helpCount
	takeCell
	takeAwaited
	takeLock
	takeTry
	takeLook
	decide

	// then all of them are left again, with what was decided.
	leaveState
	leaveCell
	leaveWord
	leaveSwap
)

// frame is a lock that is being settled, or a plan that is being helped.
type frame struct {
	next place
	plan uint64 // the plan's address; of a lock that of the plan for which it stands
	lock uint64 // the word of the lock, or of the one that was made for the entry

	// Of the lock, or of the plan's entry whose turn it is: the cell, the word that is awaited, and the word that is to be held.
	cell, awaited, held uint64

	// Of a plan alone.
	state        uint64
	count, entry uint64
	outcome      uint64
}

// ofLock is a frame that settles the lock with a word.
func ofLock(word uint64) frame {
	return frame{next: settlePlan, lock: word}
}

// ofPlan is a frame that helps a plan.
func ofPlan(addr uint64) frame {
	return frame{next: helpState, plan: addr}
}

// helper is a stack of what is being helped to its end; both procs have one inside them.
type helper struct {
	frames []frame
}

// first lets a frame go ahead of all that is under way.
func (h *helper) first(f frame) {
	h.frames = append(h.frames, f)
}

// meet lets that come to its end whose word was met in a cell; false: it is a value's.
func (h *helper) meet(word uint64) bool {
	switch {
	case isLock(word):
		h.first(ofLock(word))
	case isPlan(word):
		h.first(ofPlan(content(word)))
	default:
		return false
	}
	return true
}

// help takes a step of what is to be done first; true: all is at its end.
func (h *helper) help(v *arena.View) bool {
	last := len(h.frames) - 1
	f := h.frames[last]
	ahead := f.step(v)
	h.frames[last] = f
	if f.next == frameEnd {
		// No room is left behind the end: what is laid there next gets a place of its own.
		h.frames = h.frames[:last:last]
	}
	if ahead.next != frameEnd {
		h.first(ahead)
	}
	return len(h.frames) == 0
}

// step takes the next step, and tells what is to be done ahead of the one behind it, if there is anything.
func (f *frame) step(v *arena.View) frame {
	switch {
	case f.next < helpState:
		f.settle(v)
	case f.next < leaveState:
		return f.take(v)
	default:
		f.leave(v)
	}
	return frame{}
}

// settle takes a step of settling a lock.
func (f *frame) settle(v *arena.View) {
	lock := content(f.lock)
	switch f.next {
	case settlePlan:
		f.plan = v.Load(lock + lockPlanAt)
	case settleCell:
		f.cell = v.Load(lock + lockCellAt)
	case settleAwaited:
		f.awaited = v.Load(lock + lockAwaitedAt)
	case settleHeld:
		f.held = v.Load(lock + lockHeldAt)
	case settleAsk:
		// A plan that is decided takes no cell any more.
		if v.Load(f.plan+stateAt) != planOpen {
			f.held = f.awaited
		}
	case settleSwap:
		v.Cas(f.cell, f.lock, f.held)
		f.next = frameEnd
		return
	}
	f.next++
}

// take takes a step of helping a plan up to where it is decided.
func (f *frame) take(v *arena.View) frame {
	switch f.next {
	case helpState:
		f.state = v.Load(f.plan + stateAt)
		f.next = helpCount
	case helpCount:
		f.count = min(v.Load(f.plan+countAt), api.MaxWide)
		f.next = leaveState
		if f.state == planOpen {
			f.toTake(0)
		}
	case takeCell:
		f.cell = v.Load(f.entryAddr() + cellAt)
		f.next = takeAwaited
	case takeAwaited:
		f.awaited = v.Load(f.entryAddr() + awaitedAt)
		f.next = takeLock
	case takeLock:
		f.makeLock(v)
	case takeTry:
		return f.try(v)
	case takeLook:
		return f.look(v.Load(f.cell))
	case decide:
		v.Cas(f.plan+stateAt, planOpen, f.outcome)
		f.next = leaveState
	}
	return frame{}
}

// entryAddr is where the entry lies whose turn it is.
func (f *frame) entryAddr() uint64 {
	return f.plan + entriesAt + f.entry*entryLength
}

// toTake goes on to take the cell of an entry; if there is none, all are taken.
func (f *frame) toTake(entry uint64) {
	f.entry = entry
	f.next = takeCell
	if entry == f.count {
		f.toDecide(planDone)
	}
}

func (f *frame) toDecide(outcome uint64) {
	f.outcome = outcome
	f.next = decide
}

// makeLock makes the lock for the entry.
func (f *frame) makeLock(v *arena.View) {
	lock := v.Alloc([]uint64{f.plan, f.cell, f.awaited, planWord(f.plan)})
	if lock == 0 {
		f.toDecide(planNoMemory)
		return
	}
	f.lock = lockWord(lock)
	f.next = takeTry
}

// try puts the lock into the cell; if that is done, the lock is to be settled ahead of the next entry: all of it is known.
func (f *frame) try(v *arena.View) frame {
	if !v.Cas(f.cell, f.awaited, f.lock) {
		f.next = takeLook
		return frame{}
	}
	own := frame{next: settleAsk, plan: f.plan, lock: f.lock, cell: f.cell, awaited: f.awaited, held: planWord(f.plan)}
	f.toTake(f.entry + 1)
	return own
}

// look goes on with the word that the cell held in the place of the awaited one.
func (f *frame) look(word uint64) frame {
	f.next = takeTry
	switch {
	case isLock(word):
		return ofLock(word)
	case word == f.awaited:
		// It was held again behind the Cas.
	case word == planWord(f.plan):
		f.toTake(f.entry + 1)
	case isPlan(word):
		return ofPlan(content(word))
	default:
		f.toDecide(planNotDone)
	}
	return frame{}
}

// leave takes a step of helping a plan that is decided.
func (f *frame) leave(v *arena.View) {
	switch f.next {
	case leaveState:
		f.state = v.Load(f.plan + stateAt)
		f.toLeave(0)
	case leaveCell:
		f.cell = v.Load(f.entryAddr() + cellAt)
		f.next = leaveWord
	case leaveWord:
		at := uint64(awaitedAt)
		if f.state == planDone {
			at = heldAt
		}
		f.held = v.Load(f.entryAddr() + at)
		f.next = leaveSwap
	case leaveSwap:
		v.Cas(f.cell, planWord(f.plan), f.held)
		f.toLeave(f.entry + 1)
	}
}

// toLeave goes on to leave the cell of an entry; if there is none, that is the end.
func (f *frame) toLeave(entry uint64) {
	f.entry = entry
	f.next = leaveCell
	if entry == f.count {
		f.next = frameEnd
	}
}
