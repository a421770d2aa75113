package locked

import (
	"slices"

	"shutter/api"
	"shutter/word"
)

// slots tell which handle comes next: as many may hold at one time as there are slots.
type slots struct {
	list  []slot
	holds int    // how many of the list hold
	left  uint64 // how many handles may still be told: one a stamp, the last stamp is nobody's
}

// slot is what handles are told of, one behind the other.
type slot struct {
	holds bool
	gen   uint64 // how many handles of it were let go
}

func newSlots(c api.Config) slots {
	return slots{list: make([]slot, c.Slots), left: c.Stamps - 1}
}

// take is the handle of the lowest slot that may be had, which holds from now on.
func (s *slots) take() (uint64, api.Errno) {
	if s.holds == len(s.list) {
		return 0, api.ErrSlot
	}
	if s.left == 0 {
		return 0, api.ErrStamp
	}
	i := slices.IndexFunc(s.list, slot.mayBeHad)
	if i < 0 {
		return 0, api.ErrSlot
	}
	s.list[i].holds = true
	s.holds++
	s.left--
	return word.Handle(i, s.list[i].gen)
}

func (s slot) mayBeHad() bool {
	return !s.holds && s.gen < api.MaxGen-1
}

// letGo frees the slot of a handle that holds.
func (s *slots) letGo(handle uint64) {
	i, _, errno := word.Unhandle(handle)
	if errno != api.OK {
		return
	}
	s.list[i].holds = false
	s.list[i].gen++
	s.holds--
}
